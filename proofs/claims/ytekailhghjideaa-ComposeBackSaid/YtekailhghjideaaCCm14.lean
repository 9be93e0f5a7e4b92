/- Part 15 of the proof: CmX, Into. -/
import Derived.Test.YtekailhghjideaaCCm13

namespace Go.Proofs.Ytekailhghjideaa
open Go Go.RowKit
set_option linter.unusedVariables false
set_option linter.unusedSimpArgs false

theorem mtSize : (Try.prog.info? 34).map (·.size) = some 4 := by kernel_rfl
theorem fmSize : (Try.prog.info? 75).map (·.size) = some 2 := by kernel_rfl
def numsM (m : Mtx) (n : Nat) : List Int := if n ≤ 2 then [m.1, m.2.2.2].take n else [m.1, m.2.1, m.2.2.1, m.2.2.2]
set_option maxRecDepth 100000 in
theorem numbersOf_0 (a b c d : Int) (w : World) : Calls Try.prog 58 #[.agg #[.int .i64 a, .int .i64 b, .int .i64 c, .int .i64 d], .int .i64 0] w fun e w' => ∃ A cc, e = .returned (.slice A 0 cc) ∧ Lists w' w'.heap.size A (intCells (numsM (a, b, c, d) 0)) ∧ Below w.heap.size w w' := by
  have HL := lists_row_at (w.alloc (.cells #[.int .i64 a, .int .i64 b, .int .i64 c, .int .i64 d] 34)) [.int .i64 a, .int .i64 d] 3 (w.heap.size + 1) (by simp)
  have HB : Below w.heap.size w ((w.alloc (.cells #[.int .i64 a, .int .i64 b, .int .i64 c, .int .i64 d] 34)).alloc (.cells [.int .i64 a, .int .i64 d].toArray 3)) := ((Below.refl _ _).alloc (Nat.le_refl _) _).alloc (by simp) _
  go_enter Try.func58, Try.ntmps58
  go_wp2
  go_ret
  refine ⟨some ⟨w.heap.size + 1, 0, none⟩, 2, rfl, ?_, HB⟩
  have := lists_takeF HL 0
  simp only [World.size_alloc]
  exact this

set_option maxRecDepth 100000 in
theorem numbersOf_1 (a b c d : Int) (w : World) : Calls Try.prog 58 #[.agg #[.int .i64 a, .int .i64 b, .int .i64 c, .int .i64 d], .int .i64 1] w fun e w' => ∃ A cc, e = .returned (.slice A 1 cc) ∧ Lists w' w'.heap.size A (intCells (numsM (a, b, c, d) 1)) ∧ Below w.heap.size w w' := by
  have HL := lists_row_at (w.alloc (.cells #[.int .i64 a, .int .i64 b, .int .i64 c, .int .i64 d] 34)) [.int .i64 a, .int .i64 d] 3 (w.heap.size + 1) (by simp)
  have HB : Below w.heap.size w ((w.alloc (.cells #[.int .i64 a, .int .i64 b, .int .i64 c, .int .i64 d] 34)).alloc (.cells [.int .i64 a, .int .i64 d].toArray 3)) := ((Below.refl _ _).alloc (Nat.le_refl _) _).alloc (by simp) _
  go_enter Try.func58, Try.ntmps58
  go_wp2
  go_ret
  refine ⟨some ⟨w.heap.size + 1, 0, none⟩, 2, rfl, ?_, HB⟩
  have := lists_takeF HL 1
  simp only [World.size_alloc]
  exact this

set_option maxRecDepth 100000 in
theorem numbersOf_2 (a b c d : Int) (w : World) : Calls Try.prog 58 #[.agg #[.int .i64 a, .int .i64 b, .int .i64 c, .int .i64 d], .int .i64 2] w fun e w' => ∃ A cc, e = .returned (.slice A 2 cc) ∧ Lists w' w'.heap.size A (intCells (numsM (a, b, c, d) 2)) ∧ Below w.heap.size w w' := by
  have HL := lists_row_at (w.alloc (.cells #[.int .i64 a, .int .i64 b, .int .i64 c, .int .i64 d] 34)) [.int .i64 a, .int .i64 d] 3 (w.heap.size + 1) (by simp)
  have HB : Below w.heap.size w ((w.alloc (.cells #[.int .i64 a, .int .i64 b, .int .i64 c, .int .i64 d] 34)).alloc (.cells [.int .i64 a, .int .i64 d].toArray 3)) := ((Below.refl _ _).alloc (Nat.le_refl _) _).alloc (by simp) _
  go_enter Try.func58, Try.ntmps58
  go_wp2
  go_ret
  refine ⟨some ⟨w.heap.size + 1, 0, none⟩, 2, rfl, ?_, HB⟩
  have := lists_takeF HL 2
  simp only [World.size_alloc]
  exact this

set_option maxRecDepth 100000 in
theorem numbersOf_4 (a b c d : Int) (w : World) : Calls Try.prog 58 #[.agg #[.int .i64 a, .int .i64 b, .int .i64 c, .int .i64 d], .int .i64 4] w fun e w' => ∃ A cc, e = .returned (.slice A 4 cc) ∧ Lists w' w'.heap.size A (intCells (numsM (a, b, c, d) 4)) ∧ Below w.heap.size w w' := by
  have HL := lists_row_at (w.alloc (.cells #[.int .i64 a, .int .i64 b, .int .i64 c, .int .i64 d] 34)) [.int .i64 a, .int .i64 b, .int .i64 c, .int .i64 d] 3 (w.heap.size + 1) (by simp)
  have HB : Below w.heap.size w ((w.alloc (.cells #[.int .i64 a, .int .i64 b, .int .i64 c, .int .i64 d] 34)).alloc (.cells [.int .i64 a, .int .i64 b, .int .i64 c, .int .i64 d].toArray 3)) := ((Below.refl _ _).alloc (Nat.le_refl _) _).alloc (by simp) _
  go_enter Try.func58, Try.ntmps58
  go_wp2
  go_ret
  refine ⟨some ⟨w.heap.size + 1, 0, none⟩, 4, rfl, ?_, HB⟩
  have := lists_takeF HL 4
  simp only [World.size_alloc]
  exact this

theorem numbersOf_any (m : Mtx) (n : Nat) (hn : n = 0 ∨ n = 1 ∨ n = 2 ∨ n = 4) (w : World) : Calls Try.prog 58 #[mtV m, .int .i64 n] w fun e w' => ∃ A cc, e = .returned (.slice A n cc) ∧ Lists w' w'.heap.size A (intCells (numsM m n)) ∧ Below w.heap.size w w' := by
  obtain ⟨a, b, c, d⟩ := m
  rcases hn with rfl | rfl | rfl | rfl
  · exact numbersOf_0 a b c d w
  · exact numbersOf_1 a b c d w
  · exact numbersOf_2 a b c d w
  · exact numbersOf_4 a b c d w
theorem numsM_len (m : Mtx) (n : Nat) (hn : n = 0 ∨ n = 1 ∨ n = 2 ∨ n = 4) : (numsM m n).length = n := by
  rcases hn with rfl | rfl | rfl | rfl <;> rfl
/-- Does a form tell the matrix? -/
def tells (m : Mtx) (x : Int × Int) : Bool := matL (numsM m x.2.toNat) == m
set_option maxRecDepth 100000 in
set_option maxHeartbeats 1000000 in
theorem shortest1_any (m : Mtx) (x : Int × Int) (n : Nat) (hx : x.2 = n) (hn : n = 0 ∨ n = 1 ∨ n = 2 ∨ n = 4) (mb : Nat) (w : World) (K : Blk w mb 34 #[.int .i64 m.1, .int .i64 m.2.1, .int .i64 m.2.2.1, .int .i64 m.2.2.2]) :
    Calls Try.prog 74 (#[.agg (fmL x).toArray] ++ #[.pointer (some ⟨mb, 0, none⟩)]) w fun e w' => e = .returned (.bool (tells m x)) ∧ Below w.heap.size w w' := by
  obtain ⟨x1, x2⟩ := x
  simp only at hx
  subst hx
  obtain ⟨r, hr⟩ : ∃ r, tells m (x1, (n : Int)) = r := ⟨_, rfl⟩
  have CN := fun W => numbersOf_any m n hn W
  have hlen := numsM_len m n hn
  have CM := fun A cc W (l : Lists W W.heap.size A (intCells (numsM m n))) => matrixOf_any (numsM m n) A cc W.heap.size W (Nat.le_refl _) l (by omega)
  rw [hlen] at CM
  obtain ⟨m2, hm2⟩ : ∃ m2, m2 = matL (numsM m n) := ⟨_, rfl⟩
  rw [← hm2] at CM
  have hr' : (m2 == m) = r := by rw [← hr]; unfold tells; rw [hm2]; rfl
  rw [hr]
  obtain ⟨a, b, c, d⟩ := m
  obtain ⟨a', b', c', d'⟩ := m2
  have q1 := fun w => eqM_run a' b' c' d' a b c d w
  have hq : eq4 a' b' c' d' a b c d = r := by rw [← hr', Bool.eq_iff_iff]; simp [eq4, and_assoc]
  rw [hq] at q1
  have q2 := fun x y w => eqM_guard a' b' c' d' a b c d x y w
  simp only [mtV] at CN CM
  clear hq hr' hm2 hr hlen
  show Calls _ _ #[.agg #[.int .i64 x1, .int .i64 n], .pointer (some ⟨mb, 0, none⟩)] _ _
  have al : Below w.heap.size w (w.alloc (.cells #[.int .i64 x1, .int .i64 n] 75)) := (Below.refl _ _).alloc (Nat.le_refl _) _
  have K := K.below al
  have KF := Blk.new w 75 #[.int .i64 x1, .int .i64 n]
  simp only at K
  obtain ⟨X, hX⟩ : ∃ X, X = w.alloc (.cells #[.int .i64 x1, .int .i64 n] 75) := ⟨_, rfl⟩
  have HX := Lib.hid hX
  rw [← hX] at K KF al
  clear hX
  go_enter Try.func74, Try.ntmps74
  go_wp2
  rw [← HX.out]
  refine wp_region_chain (fun W' => Blk W' mb 34 #[.int .i64 a, .int .i64 b, .int .i64 c, .int .i64 d] ∧ Blk W' w.heap.size 75 #[.int .i64 x1, .int .i64 n]) [(0, false), (1, false), (2, false), (5, false), (3, true), (4, true), (6, false), (7, false)] (by kernel_rfl) (by kernel_rfl) ⟨K.below ((Below.refl _ _).drew), KF.below ((Below.refl _ _).drew)⟩ ?_
  repeat (first
    | (refine ChainL.skip (o := ?_) ?_ ?_ ?_; rotate_left; (focus (first | (simp only [List.getElem?_toArray, List.getElem?_cons_succ, List.getElem?_cons_zero]; with_reducible rfl) | (simp only [List.getElem?_toArray, List.getElem?_cons_zero]; with_reducible rfl))); (focus rfl); simp only [Act.put, List.setIfInBounds_toArray, List.set_cons_zero, List.set_cons_succ])
    | (refine ChainL.val (o := ?_) (v := ?_) ?_ ?_ ?_ ?_ ?_; rotate_left 2; (focus (first | (simp only [List.getElem?_toArray, List.getElem?_cons_succ, List.getElem?_cons_zero]; with_reducible rfl) | (simp only [List.getElem?_toArray, List.getElem?_cons_zero]; with_reducible rfl))); (focus (intro _ _ h; cases h)); (focus rfl); (focus (intro w' hI; obtain ⟨hI1, hI2⟩ := hI; have hL := load_blk (P := Try.prog) hI1 Try.underlying34 rfl mtSize; have k1 := hI2.cell 1; simp only [List.getElem?_toArray, List.getElem?_cons_zero, List.getElem?_cons_succ] at k1; first | (have H := fun ρ o x => @exec_load _ ρ o _ _ x _ _ hL; refine H _ _ ?_ ?_ ?_; rotate_left; (focus rfl); (focus rfl)) | (go_simp <;> with_reducible rfl))); simp only [Act.put, List.setIfInBounds_toArray, List.set_cons_zero, List.set_cons_succ]))
  refine ChainL.call (o := ?_) (f := ?_) (args := ?_) ?_ ?_ ?_ ?_
  rotate_left 3
  (focus (simp only [List.getElem?_toArray, List.getElem?_cons_succ, List.getElem?_cons_zero]; with_reducible rfl))
  (focus rfl)
  (focus (go_simp; (constructor <;> with_reducible rfl)))
  refine (CN _).mono ?_
  rintro e w1 ⟨A1, c1, rfl, l1, b1⟩
  refine ⟨_, rfl, ⟨(K.below ((Below.refl _ _).drew)).below b1, (KF.below ((Below.refl _ _).drew)).below b1⟩, ?_⟩
  simp only [Act.put, List.setIfInBounds_toArray, List.set_cons_zero, List.set_cons_succ]
  refine ChainL.call (o := ?_) (f := ?_) (args := ?_) ?_ ?_ ?_ ?_
  rotate_left 3
  (focus (simp only [List.getElem?_toArray, List.getElem?_cons_succ, List.getElem?_cons_zero]; with_reducible rfl))
  (focus rfl)
  (focus (go_simp; (constructor <;> with_reducible rfl)))
  refine (CM A1 c1 _ l1).mono ?_
  rintro e w2 ⟨rfl, b2⟩
  refine ⟨_, rfl, ⟨((K.below ((Below.refl _ _).drew)).below b1).below b2, ((KF.below ((Below.refl _ _).drew)).below b1).below b2⟩, ?_⟩
  simp only [Act.put, List.setIfInBounds_toArray, List.set_cons_zero, List.set_cons_succ]
  repeat (first
    | (refine ChainL.skip (o := ?_) ?_ ?_ ?_; rotate_left; (focus (first | (simp only [List.getElem?_toArray, List.getElem?_cons_succ, List.getElem?_cons_zero]; with_reducible rfl) | (simp only [List.getElem?_toArray, List.getElem?_cons_zero]; with_reducible rfl))); (focus rfl); simp only [Act.put, List.setIfInBounds_toArray, List.set_cons_zero, List.set_cons_succ])
    | (refine ChainL.val (o := ?_) (v := ?_) ?_ ?_ ?_ ?_ ?_; rotate_left 2; (focus (first | (simp only [List.getElem?_toArray, List.getElem?_cons_succ, List.getElem?_cons_zero]; with_reducible rfl) | (simp only [List.getElem?_toArray, List.getElem?_cons_zero]; with_reducible rfl))); (focus (intro _ _ h; cases h)); (focus rfl); (focus (intro w' hI; obtain ⟨hI1, hI2⟩ := hI; have hL := load_blk (P := Try.prog) hI1 Try.underlying34 rfl mtSize; have k1 := hI2.cell 1; simp only [List.getElem?_toArray, List.getElem?_cons_zero, List.getElem?_cons_succ] at k1; first | (have H := fun ρ o x => @exec_load _ ρ o _ _ x _ _ hL; refine H _ _ ?_ ?_ ?_; rotate_left; (focus rfl); (focus rfl)) | (go_simp <;> with_reducible rfl))); simp only [Act.put, List.setIfInBounds_toArray, List.set_cons_zero, List.set_cons_succ]))
  refine ChainL.nil ?_
  go_wp2
  go_ret
  exact ⟨rfl, (al.drew.trans (b1.mono (by have := al.size; exact this))).trans (b2.mono (by have := al.size; have := b1.size; exact Nat.le_trans ‹_› this))⟩
/-- The shortest form of a matrix. -/
def shortN (m : Mtx) : Int × Int := if m == one14 then (0, 0) else if (m.1, 0, 0, m.1) == m then (8, 1) else if (m.1, 0, 0, m.2.2.2) == m then (64, 2) else (128, 4)
theorem fnd_short (m : Mtx) : (fnd (tells m)).1 = shortN m := by
  obtain ⟨a, b, c, d⟩ := m
  have e0 : tells (a, b, c, d) (0, 0) = ((a, b, c, d) == one14) := by
    show (one14 == (a, b, c, d)) = ((a, b, c, d) == one14)
    rw [Bool.eq_iff_iff, beq_iff_eq, beq_iff_eq]
    exact eq_comm
  have e1 : tells (a, b, c, d) (8, 1) = ((a, 0, 0, a) == (a, b, c, d)) := rfl
  have e2 : tells (a, b, c, d) (64, 2) = ((a, 0, 0, d) == (a, b, c, d)) := rfl
  have e3 : tells (a, b, c, d) (128, 4) = true := by
    show ((a, b, c, d) == (a, b, c, d)) = true
    simp
  unfold fnd shortN
  rw [e0, e1, e2, e3]
  simp only
  split
  · rfl
  · split
    · rfl
    · split
      · rfl
      · rfl
set_option maxRecDepth 100000 in
set_option maxHeartbeats 1000000 in
theorem shortest_any (m : Mtx) (w : World) : Calls Try.prog 59 #[mtV m] w fun e w' => e = .returned (.agg (fmL (shortN m)).toArray) ∧ Below w.heap.size w w' := by
  have hs := fnd_short m
  obtain ⟨a, b, c, d⟩ := m
  have B1 : Below w.heap.size w (w.alloc (.cells #[.int .i64 a, .int .i64 b, .int .i64 c, .int .i64 d] 34)) := (Below.refl _ _).alloc (Nat.le_refl _) _
  have B2 := B1.alloc B1.size (.cells #[.int .i64 0, .int .i64 0] 75)
  have K0 := (Blk.new w 34 #[.int .i64 a, .int .i64 b, .int .i64 c, .int .i64 d]).below ((Below.refl _ _).alloc (Nat.le_refl _) (.cells #[.int .i64 0, .int .i64 0] 75))
  have K1 := Blk.new (w.alloc (.cells #[.int .i64 a, .int .i64 b, .int .i64 c, .int .i64 d] 34)) 75 #[.int .i64 0, .int .i64 0]
  rw [World.size_alloc] at K1
  have C := find_any 74 #[.pointer (some ⟨w.heap.size, 0, none⟩)] (tells (a, b, c, d)) ((w.alloc (.cells #[.int .i64 a, .int .i64 b, .int .i64 c, .int .i64 d] 34)).alloc (.cells #[.int .i64 0, .int .i64 0] 75)) (fun _ _ => rfl) (fun W x hx hW => by
    have hk : ∃ n : Nat, x.2 = n ∧ (n = 0 ∨ n = 1 ∨ n = 2 ∨ n = 4) := by
      simp only [F4, List.mem_cons, List.not_mem_nil, or_false] at hx
      rcases hx with rfl | rfl | rfl | rfl
      · exact ⟨0, rfl, by simp⟩
      · exact ⟨1, rfl, by simp⟩
      · exact ⟨2, rfl, by simp⟩
      · exact ⟨4, rfl, by simp⟩
    obtain ⟨n, h1, h2⟩ := hk
    exact shortest1_any (a, b, c, d) x n h1 h2 w.heap.size W (K0.below hW))
  rw [hs] at C
  clear hs B1 K0
  generalize shortN (a, b, c, d) = s at *
  obtain ⟨s1, s2⟩ := s
  generalize (fnd (tells (a, b, c, d))).2 = ok at *
  simp only [fmL, mtV] at C ⊢
  go_enter Try.func59, Try.ntmps59
  go_wp2_with (go_at_call 70; ((with_reducible refine (C).mono ?_); rintro e w1 ⟨rfl, b1⟩; have B3 := B2.trans (b1.mono B2.size); have K1 := K1.below b1; have c0 := K1.cell 0; have c1 := K1.cell 1; have f0 := K1.frozen 0; have f1 := K1.frozen 1; have g0 := K1.lt; simp only [List.getElem?_toArray, List.getElem?_cons_zero, List.getElem?_cons_succ] at c0 c1))
  refine bodyPost_ret (results_cell_row Try.results59 _ _ (w.heap.size + 1) 75 #[.int .i64 s1, .int .i64 s2] (0, 0) _ (by rfl) (show Blk _ _ _ _ from ((K1.set 0 (.int .i64 s1)).set 1 (.int .i64 s2)).below ((Below.refl _ _).alloc (Nat.le_refl _) _)) Try.underlying75 rfl fmSize) rfl ⟨rfl, ?_⟩
  exact ((B3.setCell (p := ⟨w.heap.size + 1, 0, none⟩) (by simp) _).setCell (p := ⟨w.heap.size + 1, 1, none⟩) (by simp) _).alloc (by have := B3.size; simp; omega) _
/-- A part's two arguments. -/
def argsP (p : Prt) : Int × Int := if p.2.2.1 then (p.2.2.2.2.2.2.1, p.2.2.2.2.2.2.2) else (p.2.2.2.1, p.2.2.2.2.1)
theorem a2Size : (Try.prog.info? 89).map (·.size) = some 2 := by kernel_rfl
set_option maxRecDepth 100000 in
set_option maxHeartbeats 1000000 in
theorem argumentsOf_any (P : Prt) (w : World) : Calls Try.prog 57 #[.agg (prL P).toArray] w fun e w' => e = .returned (.agg #[.int .i64 (argsP P).1, .int .i64 (argsP P).2]) ∧ Below w.heap.size w w' := by
  obtain ⟨g, ⟨a, b, c, d⟩, m, x, y, t, p, q⟩ := P
  unfold argsP
  simp only [prL]
  cases m
  · go_enter Try.func57, Try.ntmps57
    go_wp2
    refine bodyPost_ret (results_cell_row Try.results57 _ _ (w.heap.size + 1) 89 #[.int .i64 x, .int .i64 y] (0, 0) _ (by rfl) (show Blk _ _ _ _ from by have h := Blk.new (w.alloc (.cells #[.int .i64 g, .int .i64 a, .int .i64 b, .int .i64 c, .int .i64 d, .bool false, .int .i64 x, .int .i64 y, .bool t, .int .i64 p, .int .i64 q] 36)) 89 #[.int .i64 x, .int .i64 y]; rw [World.size_alloc] at h; exact h) Try.underlying89 rfl a2Size) rfl ⟨rfl, ((Below.refl _ _).alloc (Nat.le_refl _) _).alloc (by simp) _⟩
  · go_enter Try.func57, Try.ntmps57
    go_wp2
    refine bodyPost_ret (results_cell_row Try.results57 _ _ (w.heap.size + 1) 89 #[.int .i64 p, .int .i64 q] (0, 0) _ (by rfl) (show Blk _ _ _ _ from by have h := Blk.new (w.alloc (.cells #[.int .i64 g, .int .i64 a, .int .i64 b, .int .i64 c, .int .i64 d, .bool true, .int .i64 x, .int .i64 y, .bool t, .int .i64 p, .int .i64 q] 36)) 89 #[.int .i64 p, .int .i64 q]; rw [World.size_alloc] at h; exact h) Try.underlying89 rfl a2Size) rfl ⟨rfl, ((Below.refl _ _).alloc (Nat.le_refl _) _).alloc (by simp) _⟩
theorem lists_blk {w : World} {ab : Nat} {T : TypeId} {cs : List Value} (h : Blk w ab T cs.toArray) : Lists w w.heap.size (some ⟨ab, 0, none⟩) cs :=
  ⟨fun e => (nomatch e), fun a ha j u hu => by
    cases ha
    rw [addr_plain, Nat.zero_add, h.cell j, List.getElem?_toArray]
    exact hu, fun a ha _ => by cases ha; exact h.lt⟩
theorem fieldF (x y : Int) (w : World) : (Instr.field 75 (.agg #[.int .i64 x, .int .i64 y]) 0).run Try.prog w = .ok (.int .i64 x) w := by kernel_rfl
/-- Do a part's arguments fit one byte? -/
def fitsP (p : Prt) : Bool := if p.2.2.1 then [(argsP p).1, (argsP p).2].all (inB 0 255) else [(argsP p).1, (argsP p).2].all (inB (-128) 127)
/-- A part's flags, as if none followed. -/
def flagP (p : Prt) : Int :=
  let s := (shortN p.2.1).1
  let f := if p.2.2.1 then s else if p.2.2.2.2.2.1 then bits .or .i64 s 2050 else bits .or .i64 s 4098
  if fitsP p then f else bits .or .i64 f 1
set_option maxRecDepth 100000 in
set_option maxHeartbeats 1000000 in
theorem flagsOf_tt_true (g a b c d x y p q : Int) (t : Bool) (w : World) (hf : fitsP (g, (a, b, c, d), true, x, y, t, p, q) = true) :
    Calls Try.prog 31 #[.agg #[.int .i64 g, .int .i64 a, .int .i64 b, .int .i64 c, .int .i64 d, .bool true, .int .i64 x, .int .i64 y, .bool t, .int .i64 p, .int .i64 q]] w fun e w' => e = .returned (.int .i64 (shortN (a, b, c, d)).1) ∧ Below w.heap.size w w' := by
  have B0 : Below w.heap.size w (w.alloc (.cells #[.int .i64 g, .int .i64 a, .int .i64 b, .int .i64 c, .int .i64 d, .bool true, .int .i64 x, .int .i64 y, .bool t, .int .i64 p, .int .i64 q] 36)) := (Below.refl _ _).alloc (Nat.le_refl _) _
  have KP := Blk.new w 36 #[.int .i64 g, .int .i64 a, .int .i64 b, .int .i64 c, .int .i64 d, .bool true, .int .i64 x, .int .i64 y, .bool t, .int .i64 p, .int .i64 q]
  have CS := fun W => shortest_any (a, b, c, d) W
  have CA := fun W => argumentsOf_any (g, (a, b, c, d), true, x, y, t, p, q) W
  have CW := fun (W : World) => withinC 0 255 [p, q] true (by simpa [fitsP, argsP] using hf) _ (some ⟨W.heap.size, 0, none⟩) 2 2 (W.alloc (.cells #[.int .i64 p, .int .i64 q] 89)) (Nat.le_refl _) (lists_blk (Blk.new W 89 #[.int .i64 p, .int .i64 q])) rfl (by decide)
  unfold argsP at CA
  generalize shortN (a, b, c, d) = s at *
  obtain ⟨s, s2⟩ := s
  simp only [mtV, fmL, prL, if_true, if_false, Bool.false_eq_true] at CS CA
  clear hf
  have cf0 := fun w => fieldF s s2 w
  go_enter Try.func31, Try.ntmps31
  go_wp2_with (first | (go_at_call 59; ((with_reducible refine (CS _).mono ?_); rintro e w1 ⟨rfl, b1⟩; have B1 := B0.trans (b1.mono B0.size); have KP := KP.below b1; have c0 := KP.cell 0; have c1 := KP.cell 1; have c2 := KP.cell 2; have c3 := KP.cell 3; have c4 := KP.cell 4; have c5 := KP.cell 5; have c6 := KP.cell 6; have c7 := KP.cell 7; have c8 := KP.cell 8; have c9 := KP.cell 9; have c10 := KP.cell 10; have hkl := KP.lt; simp only [List.getElem?_toArray, List.getElem?_cons_zero, List.getElem?_cons_succ] at c0 c1 c2 c3 c4 c5 c6 c7 c8 c9 c10)) | (refine wpList_load_row rfl 36 (.tmp 1) (by with_reducible rfl) w.heap.size (by rfl) 36 #[.int .i64 g, .int .i64 a, .int .i64 b, .int .i64 c, .int .i64 d, .bool true, .int .i64 x, .int .i64 y, .bool t, .int .i64 p, .int .i64 q] (0, 0) _ (by exact KP) Try.underlying36 rfl prSize ?_) | (go_at_call 57; ((with_reducible refine (CA _).mono ?_); rintro e w2 ⟨rfl, b2⟩; have B2 := B1.trans (b2.mono B1.size); have B3 := B2.alloc B2.size (.cells #[.int .i64 p, .int .i64 q] 89))) | (go_at_call 36; ((with_reducible refine (CW w2).mono ?_); rintro e w3 ⟨rfl, b3⟩; have B4 := B3.trans (b3.mono B3.size))))
  go_ret
  exact ⟨rfl, B4⟩

set_option maxRecDepth 100000 in
set_option maxHeartbeats 1000000 in
theorem flagsOf_tt_false (g a b c d x y p q : Int) (t : Bool) (w : World) (hf : fitsP (g, (a, b, c, d), true, x, y, t, p, q) = false) :
    Calls Try.prog 31 #[.agg #[.int .i64 g, .int .i64 a, .int .i64 b, .int .i64 c, .int .i64 d, .bool true, .int .i64 x, .int .i64 y, .bool t, .int .i64 p, .int .i64 q]] w fun e w' => e = .returned (.int .i64 (bits .or .i64 (shortN (a, b, c, d)).1 1)) ∧ Below w.heap.size w w' := by
  have B0 : Below w.heap.size w (w.alloc (.cells #[.int .i64 g, .int .i64 a, .int .i64 b, .int .i64 c, .int .i64 d, .bool true, .int .i64 x, .int .i64 y, .bool t, .int .i64 p, .int .i64 q] 36)) := (Below.refl _ _).alloc (Nat.le_refl _) _
  have KP := Blk.new w 36 #[.int .i64 g, .int .i64 a, .int .i64 b, .int .i64 c, .int .i64 d, .bool true, .int .i64 x, .int .i64 y, .bool t, .int .i64 p, .int .i64 q]
  have CS := fun W => shortest_any (a, b, c, d) W
  have CA := fun W => argumentsOf_any (g, (a, b, c, d), true, x, y, t, p, q) W
  have CW := fun (W : World) => withinC 0 255 [p, q] false (by simpa [fitsP, argsP] using hf) _ (some ⟨W.heap.size, 0, none⟩) 2 2 (W.alloc (.cells #[.int .i64 p, .int .i64 q] 89)) (Nat.le_refl _) (lists_blk (Blk.new W 89 #[.int .i64 p, .int .i64 q])) rfl (by decide)
  unfold argsP at CA
  generalize shortN (a, b, c, d) = s at *
  obtain ⟨s, s2⟩ := s
  simp only [mtV, fmL, prL, if_true, if_false, Bool.false_eq_true] at CS CA
  clear hf
  have cf0 := fun w => fieldF s s2 w
  go_enter Try.func31, Try.ntmps31
  go_wp2_with (first | (go_at_call 59; ((with_reducible refine (CS _).mono ?_); rintro e w1 ⟨rfl, b1⟩; have B1 := B0.trans (b1.mono B0.size); have KP := KP.below b1; have c0 := KP.cell 0; have c1 := KP.cell 1; have c2 := KP.cell 2; have c3 := KP.cell 3; have c4 := KP.cell 4; have c5 := KP.cell 5; have c6 := KP.cell 6; have c7 := KP.cell 7; have c8 := KP.cell 8; have c9 := KP.cell 9; have c10 := KP.cell 10; have hkl := KP.lt; simp only [List.getElem?_toArray, List.getElem?_cons_zero, List.getElem?_cons_succ] at c0 c1 c2 c3 c4 c5 c6 c7 c8 c9 c10)) | (refine wpList_load_row rfl 36 (.tmp 1) (by with_reducible rfl) w.heap.size (by rfl) 36 #[.int .i64 g, .int .i64 a, .int .i64 b, .int .i64 c, .int .i64 d, .bool true, .int .i64 x, .int .i64 y, .bool t, .int .i64 p, .int .i64 q] (0, 0) _ (by exact KP) Try.underlying36 rfl prSize ?_) | (go_at_call 57; ((with_reducible refine (CA _).mono ?_); rintro e w2 ⟨rfl, b2⟩; have B2 := B1.trans (b2.mono B1.size); have B3 := B2.alloc B2.size (.cells #[.int .i64 p, .int .i64 q] 89))) | (go_at_call 36; ((with_reducible refine (CW w2).mono ?_); rintro e w3 ⟨rfl, b3⟩; have B4 := B3.trans (b3.mono B3.size))))
  go_ret
  exact ⟨rfl, B4⟩

set_option maxRecDepth 100000 in
set_option maxHeartbeats 1000000 in
theorem flagsOf_ftrue_true (g a b c d x y p q : Int) (w : World) (hf : fitsP (g, (a, b, c, d), false, x, y, true, p, q) = true) :
    Calls Try.prog 31 #[.agg #[.int .i64 g, .int .i64 a, .int .i64 b, .int .i64 c, .int .i64 d, .bool false, .int .i64 x, .int .i64 y, .bool true, .int .i64 p, .int .i64 q]] w fun e w' => e = .returned (.int .i64 (bits .or .i64 (shortN (a, b, c, d)).1 2050)) ∧ Below w.heap.size w w' := by
  have B0 : Below w.heap.size w (w.alloc (.cells #[.int .i64 g, .int .i64 a, .int .i64 b, .int .i64 c, .int .i64 d, .bool false, .int .i64 x, .int .i64 y, .bool true, .int .i64 p, .int .i64 q] 36)) := (Below.refl _ _).alloc (Nat.le_refl _) _
  have KP := Blk.new w 36 #[.int .i64 g, .int .i64 a, .int .i64 b, .int .i64 c, .int .i64 d, .bool false, .int .i64 x, .int .i64 y, .bool true, .int .i64 p, .int .i64 q]
  have CS := fun W => shortest_any (a, b, c, d) W
  have CA := fun W => argumentsOf_any (g, (a, b, c, d), false, x, y, true, p, q) W
  have CW := fun (W : World) => withinC (-128) 127 [x, y] true (by simpa [fitsP, argsP] using hf) _ (some ⟨W.heap.size, 0, none⟩) 2 2 (W.alloc (.cells #[.int .i64 x, .int .i64 y] 89)) (Nat.le_refl _) (lists_blk (Blk.new W 89 #[.int .i64 x, .int .i64 y])) rfl (by decide)
  unfold argsP at CA
  generalize shortN (a, b, c, d) = s at *
  obtain ⟨s, s2⟩ := s
  simp only [mtV, fmL, prL, if_true, if_false, Bool.false_eq_true] at CS CA
  clear hf
  have cf0 := fun w => fieldF s s2 w
  go_enter Try.func31, Try.ntmps31
  go_wp2_with (first | (go_at_call 59; ((with_reducible refine (CS _).mono ?_); rintro e w1 ⟨rfl, b1⟩; have B1 := B0.trans (b1.mono B0.size); have KP := KP.below b1; have c0 := KP.cell 0; have c1 := KP.cell 1; have c2 := KP.cell 2; have c3 := KP.cell 3; have c4 := KP.cell 4; have c5 := KP.cell 5; have c6 := KP.cell 6; have c7 := KP.cell 7; have c8 := KP.cell 8; have c9 := KP.cell 9; have c10 := KP.cell 10; have hkl := KP.lt; simp only [List.getElem?_toArray, List.getElem?_cons_zero, List.getElem?_cons_succ] at c0 c1 c2 c3 c4 c5 c6 c7 c8 c9 c10)) | (refine wpList_load_row rfl 36 (.tmp 1) (by with_reducible rfl) w.heap.size (by rfl) 36 #[.int .i64 g, .int .i64 a, .int .i64 b, .int .i64 c, .int .i64 d, .bool false, .int .i64 x, .int .i64 y, .bool true, .int .i64 p, .int .i64 q] (0, 0) _ (by exact KP) Try.underlying36 rfl prSize ?_) | (go_at_call 57; ((with_reducible refine (CA _).mono ?_); rintro e w2 ⟨rfl, b2⟩; have B2 := B1.trans (b2.mono B1.size); have B3 := B2.alloc B2.size (.cells #[.int .i64 x, .int .i64 y] 89))) | (go_at_call 36; ((with_reducible refine (CW w2).mono ?_); rintro e w3 ⟨rfl, b3⟩; have B4 := B3.trans (b3.mono B3.size))))
  go_ret
  exact ⟨rfl, B4⟩

set_option maxRecDepth 100000 in
set_option maxHeartbeats 1000000 in
theorem flagsOf_ftrue_false (g a b c d x y p q : Int) (w : World) (hf : fitsP (g, (a, b, c, d), false, x, y, true, p, q) = false) :
    Calls Try.prog 31 #[.agg #[.int .i64 g, .int .i64 a, .int .i64 b, .int .i64 c, .int .i64 d, .bool false, .int .i64 x, .int .i64 y, .bool true, .int .i64 p, .int .i64 q]] w fun e w' => e = .returned (.int .i64 (bits .or .i64 (bits .or .i64 (shortN (a, b, c, d)).1 2050) 1)) ∧ Below w.heap.size w w' := by
  have B0 : Below w.heap.size w (w.alloc (.cells #[.int .i64 g, .int .i64 a, .int .i64 b, .int .i64 c, .int .i64 d, .bool false, .int .i64 x, .int .i64 y, .bool true, .int .i64 p, .int .i64 q] 36)) := (Below.refl _ _).alloc (Nat.le_refl _) _
  have KP := Blk.new w 36 #[.int .i64 g, .int .i64 a, .int .i64 b, .int .i64 c, .int .i64 d, .bool false, .int .i64 x, .int .i64 y, .bool true, .int .i64 p, .int .i64 q]
  have CS := fun W => shortest_any (a, b, c, d) W
  have CA := fun W => argumentsOf_any (g, (a, b, c, d), false, x, y, true, p, q) W
  have CW := fun (W : World) => withinC (-128) 127 [x, y] false (by simpa [fitsP, argsP] using hf) _ (some ⟨W.heap.size, 0, none⟩) 2 2 (W.alloc (.cells #[.int .i64 x, .int .i64 y] 89)) (Nat.le_refl _) (lists_blk (Blk.new W 89 #[.int .i64 x, .int .i64 y])) rfl (by decide)
  unfold argsP at CA
  generalize shortN (a, b, c, d) = s at *
  obtain ⟨s, s2⟩ := s
  simp only [mtV, fmL, prL, if_true, if_false, Bool.false_eq_true] at CS CA
  clear hf
  have cf0 := fun w => fieldF s s2 w
  go_enter Try.func31, Try.ntmps31
  go_wp2_with (first | (go_at_call 59; ((with_reducible refine (CS _).mono ?_); rintro e w1 ⟨rfl, b1⟩; have B1 := B0.trans (b1.mono B0.size); have KP := KP.below b1; have c0 := KP.cell 0; have c1 := KP.cell 1; have c2 := KP.cell 2; have c3 := KP.cell 3; have c4 := KP.cell 4; have c5 := KP.cell 5; have c6 := KP.cell 6; have c7 := KP.cell 7; have c8 := KP.cell 8; have c9 := KP.cell 9; have c10 := KP.cell 10; have hkl := KP.lt; simp only [List.getElem?_toArray, List.getElem?_cons_zero, List.getElem?_cons_succ] at c0 c1 c2 c3 c4 c5 c6 c7 c8 c9 c10)) | (refine wpList_load_row rfl 36 (.tmp 1) (by with_reducible rfl) w.heap.size (by rfl) 36 #[.int .i64 g, .int .i64 a, .int .i64 b, .int .i64 c, .int .i64 d, .bool false, .int .i64 x, .int .i64 y, .bool true, .int .i64 p, .int .i64 q] (0, 0) _ (by exact KP) Try.underlying36 rfl prSize ?_) | (go_at_call 57; ((with_reducible refine (CA _).mono ?_); rintro e w2 ⟨rfl, b2⟩; have B2 := B1.trans (b2.mono B1.size); have B3 := B2.alloc B2.size (.cells #[.int .i64 x, .int .i64 y] 89))) | (go_at_call 36; ((with_reducible refine (CW w2).mono ?_); rintro e w3 ⟨rfl, b3⟩; have B4 := B3.trans (b3.mono B3.size))))
  go_ret
  exact ⟨rfl, B4⟩

set_option maxRecDepth 100000 in
set_option maxHeartbeats 1000000 in
theorem flagsOf_ffalse_true (g a b c d x y p q : Int) (w : World) (hf : fitsP (g, (a, b, c, d), false, x, y, false, p, q) = true) :
    Calls Try.prog 31 #[.agg #[.int .i64 g, .int .i64 a, .int .i64 b, .int .i64 c, .int .i64 d, .bool false, .int .i64 x, .int .i64 y, .bool false, .int .i64 p, .int .i64 q]] w fun e w' => e = .returned (.int .i64 (bits .or .i64 (shortN (a, b, c, d)).1 4098)) ∧ Below w.heap.size w w' := by
  have B0 : Below w.heap.size w (w.alloc (.cells #[.int .i64 g, .int .i64 a, .int .i64 b, .int .i64 c, .int .i64 d, .bool false, .int .i64 x, .int .i64 y, .bool false, .int .i64 p, .int .i64 q] 36)) := (Below.refl _ _).alloc (Nat.le_refl _) _
  have KP := Blk.new w 36 #[.int .i64 g, .int .i64 a, .int .i64 b, .int .i64 c, .int .i64 d, .bool false, .int .i64 x, .int .i64 y, .bool false, .int .i64 p, .int .i64 q]
  have CS := fun W => shortest_any (a, b, c, d) W
  have CA := fun W => argumentsOf_any (g, (a, b, c, d), false, x, y, false, p, q) W
  have CW := fun (W : World) => withinC (-128) 127 [x, y] true (by simpa [fitsP, argsP] using hf) _ (some ⟨W.heap.size, 0, none⟩) 2 2 (W.alloc (.cells #[.int .i64 x, .int .i64 y] 89)) (Nat.le_refl _) (lists_blk (Blk.new W 89 #[.int .i64 x, .int .i64 y])) rfl (by decide)
  unfold argsP at CA
  generalize shortN (a, b, c, d) = s at *
  obtain ⟨s, s2⟩ := s
  simp only [mtV, fmL, prL, if_true, if_false, Bool.false_eq_true] at CS CA
  clear hf
  have cf0 := fun w => fieldF s s2 w
  go_enter Try.func31, Try.ntmps31
  go_wp2_with (first | (go_at_call 59; ((with_reducible refine (CS _).mono ?_); rintro e w1 ⟨rfl, b1⟩; have B1 := B0.trans (b1.mono B0.size); have KP := KP.below b1; have c0 := KP.cell 0; have c1 := KP.cell 1; have c2 := KP.cell 2; have c3 := KP.cell 3; have c4 := KP.cell 4; have c5 := KP.cell 5; have c6 := KP.cell 6; have c7 := KP.cell 7; have c8 := KP.cell 8; have c9 := KP.cell 9; have c10 := KP.cell 10; have hkl := KP.lt; simp only [List.getElem?_toArray, List.getElem?_cons_zero, List.getElem?_cons_succ] at c0 c1 c2 c3 c4 c5 c6 c7 c8 c9 c10)) | (refine wpList_load_row rfl 36 (.tmp 1) (by with_reducible rfl) w.heap.size (by rfl) 36 #[.int .i64 g, .int .i64 a, .int .i64 b, .int .i64 c, .int .i64 d, .bool false, .int .i64 x, .int .i64 y, .bool false, .int .i64 p, .int .i64 q] (0, 0) _ (by exact KP) Try.underlying36 rfl prSize ?_) | (go_at_call 57; ((with_reducible refine (CA _).mono ?_); rintro e w2 ⟨rfl, b2⟩; have B2 := B1.trans (b2.mono B1.size); have B3 := B2.alloc B2.size (.cells #[.int .i64 x, .int .i64 y] 89))) | (go_at_call 36; ((with_reducible refine (CW w2).mono ?_); rintro e w3 ⟨rfl, b3⟩; have B4 := B3.trans (b3.mono B3.size))))
  go_ret
  exact ⟨rfl, B4⟩

set_option maxRecDepth 100000 in
set_option maxHeartbeats 1000000 in
theorem flagsOf_ffalse_false (g a b c d x y p q : Int) (w : World) (hf : fitsP (g, (a, b, c, d), false, x, y, false, p, q) = false) :
    Calls Try.prog 31 #[.agg #[.int .i64 g, .int .i64 a, .int .i64 b, .int .i64 c, .int .i64 d, .bool false, .int .i64 x, .int .i64 y, .bool false, .int .i64 p, .int .i64 q]] w fun e w' => e = .returned (.int .i64 (bits .or .i64 (bits .or .i64 (shortN (a, b, c, d)).1 4098) 1)) ∧ Below w.heap.size w w' := by
  have B0 : Below w.heap.size w (w.alloc (.cells #[.int .i64 g, .int .i64 a, .int .i64 b, .int .i64 c, .int .i64 d, .bool false, .int .i64 x, .int .i64 y, .bool false, .int .i64 p, .int .i64 q] 36)) := (Below.refl _ _).alloc (Nat.le_refl _) _
  have KP := Blk.new w 36 #[.int .i64 g, .int .i64 a, .int .i64 b, .int .i64 c, .int .i64 d, .bool false, .int .i64 x, .int .i64 y, .bool false, .int .i64 p, .int .i64 q]
  have CS := fun W => shortest_any (a, b, c, d) W
  have CA := fun W => argumentsOf_any (g, (a, b, c, d), false, x, y, false, p, q) W
  have CW := fun (W : World) => withinC (-128) 127 [x, y] false (by simpa [fitsP, argsP] using hf) _ (some ⟨W.heap.size, 0, none⟩) 2 2 (W.alloc (.cells #[.int .i64 x, .int .i64 y] 89)) (Nat.le_refl _) (lists_blk (Blk.new W 89 #[.int .i64 x, .int .i64 y])) rfl (by decide)
  unfold argsP at CA
  generalize shortN (a, b, c, d) = s at *
  obtain ⟨s, s2⟩ := s
  simp only [mtV, fmL, prL, if_true, if_false, Bool.false_eq_true] at CS CA
  clear hf
  have cf0 := fun w => fieldF s s2 w
  go_enter Try.func31, Try.ntmps31
  go_wp2_with (first | (go_at_call 59; ((with_reducible refine (CS _).mono ?_); rintro e w1 ⟨rfl, b1⟩; have B1 := B0.trans (b1.mono B0.size); have KP := KP.below b1; have c0 := KP.cell 0; have c1 := KP.cell 1; have c2 := KP.cell 2; have c3 := KP.cell 3; have c4 := KP.cell 4; have c5 := KP.cell 5; have c6 := KP.cell 6; have c7 := KP.cell 7; have c8 := KP.cell 8; have c9 := KP.cell 9; have c10 := KP.cell 10; have hkl := KP.lt; simp only [List.getElem?_toArray, List.getElem?_cons_zero, List.getElem?_cons_succ] at c0 c1 c2 c3 c4 c5 c6 c7 c8 c9 c10)) | (refine wpList_load_row rfl 36 (.tmp 1) (by with_reducible rfl) w.heap.size (by rfl) 36 #[.int .i64 g, .int .i64 a, .int .i64 b, .int .i64 c, .int .i64 d, .bool false, .int .i64 x, .int .i64 y, .bool false, .int .i64 p, .int .i64 q] (0, 0) _ (by exact KP) Try.underlying36 rfl prSize ?_) | (go_at_call 57; ((with_reducible refine (CA _).mono ?_); rintro e w2 ⟨rfl, b2⟩; have B2 := B1.trans (b2.mono B1.size); have B3 := B2.alloc B2.size (.cells #[.int .i64 x, .int .i64 y] 89))) | (go_at_call 36; ((with_reducible refine (CW w2).mono ?_); rintro e w3 ⟨rfl, b3⟩; have B4 := B3.trans (b3.mono B3.size))))
  go_ret
  exact ⟨rfl, B4⟩

theorem flagsOf_any (P : Prt) (w : World) : Calls Try.prog 31 #[.agg (prL P).toArray] w fun e w' => e = .returned (.int .i64 (flagP P)) ∧ Below w.heap.size w w' := by
  obtain ⟨g, ⟨a, b, c, d⟩, m, x, y, t, p, q⟩ := P
  simp only [prL]
  cases m
  · cases t
    · cases hf : fitsP (g, (a, b, c, d), false, x, y, false, p, q)
      · exact (flagsOf_ffalse_false g a b c d x y p q w hf).mono fun e w' k => ⟨by rw [k.1]; unfold flagP; rw [hf]; rfl, k.2⟩
      · exact (flagsOf_ffalse_true g a b c d x y p q w hf).mono fun e w' k => ⟨by rw [k.1]; unfold flagP; rw [hf]; rfl, k.2⟩
    · cases hf : fitsP (g, (a, b, c, d), false, x, y, true, p, q)
      · exact (flagsOf_ftrue_false g a b c d x y p q w hf).mono fun e w' k => ⟨by rw [k.1]; unfold flagP; rw [hf]; rfl, k.2⟩
      · exact (flagsOf_ftrue_true g a b c d x y p q w hf).mono fun e w' k => ⟨by rw [k.1]; unfold flagP; rw [hf]; rfl, k.2⟩
  · cases hf : fitsP (g, (a, b, c, d), true, x, y, t, p, q)
    · exact (flagsOf_tt_false g a b c d x y p q t w hf).mono fun e w' k => ⟨by rw [k.1]; unfold flagP; rw [hf]; rfl, k.2⟩
    · exact (flagsOf_tt_true g a b c d x y p q t w hf).mono fun e w' k => ⟨by rw [k.1]; unfold flagP; rw [hf]; rfl, k.2⟩
end Go.Proofs.Ytekailhghjideaa

namespace Go.Proofs.Ytekailhghjideaa
open Go Go.RowKit

/-- The bytes of a number of a kind. -/
def bek (kd : Nat) (x : Int) : List Value :=
  match kd with
  | 0 => be1 x
  | 3 => be4 x
  | _ => be2 x
theorem bek_length (kd : Nat) (hk : kd < 4) (x : Int) : (bek kd x).length = wid kd := by
  rcases kd with _ | _ | _ | _ | kd
  · rfl
  · rfl
  · rfl
  · rfl
  · omega
/-- A number was put. -/
def Went (w0 w : World) (p R : Nat) (L E : List Value) (e : Ending) (w' : World) : Prop := e = .returned (.tuple #[]) ∧ WS w0 w' p R (L ++ E) ∧ Safe w w' ∧ w.heap.size ≤ w'.heap.size

end Go.Proofs.Ytekailhghjideaa
