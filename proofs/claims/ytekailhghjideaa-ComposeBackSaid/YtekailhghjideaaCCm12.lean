/- Part 13 of the proof: CmV. -/
import Derived.Test.YtekailhghjideaaCCm11

namespace Go.Proofs.Ytekailhghjideaa
open Go Go.RowKit
set_option linter.unusedVariables false
set_option linter.unusedSimpArgs false

theorem beyondC (a b x : Int) (p q : Nat) (w : World) (hp : w.cell? ⟨p, 0, none⟩ = some (.int .i64 a)) (hq : w.cell? ⟨q, 0, none⟩ = some (.int .i64 b)) :
    Calls Try.prog 63 #[.int .i64 x, .pointer (some ⟨p, 0, none⟩), .pointer (some ⟨q, 0, none⟩)] w fun e w' => e = .returned (.bool (!inB a b x)) ∧ w = w' := by
  by_cases h1 : x < a
  · have e : (!inB a b x) = true := by
      cases h : inB a b x
      · rfl
      · have := inB_true h; omega
    have E := Lib.hid e
    clear e
    go_enter Try.func63, Try.ntmps63
    go_wp2
    go_ret
    exact ⟨congrArg (fun r => Ending.returned (.bool r)) E.out.symm, rfl⟩
  · by_cases h2 : b < x
    · have e : (!inB a b x) = true := by
        cases h : inB a b x
        · rfl
        · have := inB_true h; omega
      have E := Lib.hid e
      clear e
      go_enter Try.func63, Try.ntmps63
      go_wp2
      go_ret
      exact ⟨congrArg (fun r => Ending.returned (.bool r)) E.out.symm, rfl⟩
    · have e : (!inB a b x) = false := by rw [inB_yes (by omega) (by omega)]; rfl
      have E := Lib.hid e
      clear e
      go_enter Try.func63, Try.ntmps63
      go_wp2
      go_ret
      exact ⟨congrArg (fun r => Ending.returned (.bool r)) E.out.symm, rfl⟩


set_option maxRecDepth 100000 in
theorem withinC (a b : Int) (L : List Int) (r : Bool) (hr : L.all (inB a b) = r) (B : Nat) (A : Option Addr) (c n : Nat) (w : World) (hB : B ≤ w.heap.size) (hL : Lists w B A (intCells L)) (hn : L.length = n) (hn4 : n ≤ 4) :
    Calls Try.prog 36 #[.int .i64 a, .int .i64 b, .slice A n c] w fun e w' => e = .returned (.bool r) ∧ Below w.heap.size w w' := by
  have e1 : (L.any fun x => !inB a b x) = !r := by rw [← hr, List.not_all_eq_any_not]
  have ee : Enters Try.prog 63 := enters_of Try.func63 (by kernel_rfl) rfl
  have C : ∀ (W : World), Below w.heap.size w W → ∀ lb : Array Value, (∀ (W1 : World) (y : Int), Below W.heap.size W W1 → Calls Try.prog 63 (#[.int .i64 y] ++ lb) W1 fun e w' => e = .returned (.bool (!inB a b y)) ∧ Below W1.heap.size W1 w') →
      Calls Try.prog 62 #[.slice A n c, .func (.func 63) #[] lb] W fun e w' => e = .returned (.bool (!r)) ∧ Below W.heap.size W w' := by
    intro W b1 lb hp
    have h1 : Lists W B A (intCells L) := hL.below (b1.mono hB)
    have h2 := hasInt_any 63 lb (fun x => !inB a b x) B A c L W (Nat.le_trans hB b1.size) h1 (by omega) ee (fun W1 y _ hb => hp W1 y hb)
    rw [e1, hn] at h2
    exact h2
  clear hL ee e1 hr
  go_enter Try.func36, Try.ntmps36
  go_wp2_with (first | (go_at_call 62; ((refine (C _ (((Below.refl _ _).alloc (Nat.le_refl _) _).alloc (by simp) _) #[.pointer (some ⟨w.heap.size, 0, none⟩), .pointer (some ⟨w.heap.size + 1, 0, none⟩)] (fun W1 y b1 => (beyondC a b y w.heap.size (w.heap.size + 1) W1 ((b1.cell (p := ⟨w.heap.size, 0, none⟩) (by simp <;> omega)).trans (by simp)) ((b1.cell (p := ⟨w.heap.size + 1, 0, none⟩) (by simp)).trans (by simp))).mono (fun e w2 ⟨h1, h2⟩ => ⟨h1, h2 ▸ Below.refl _ _⟩))).mono ?_); rintro e w1 ⟨rfl, b⟩)))
  go_ret
  refine ⟨?_, (((Below.refl _ _).alloc (Nat.le_refl _) _).alloc (by simp) _).trans (b.mono (by simp <;> omega))⟩
  cases r <;> rfl

/-- Are two parts the same? -/
def eqPr (a b : Prt) : Bool := a == b
set_option maxRecDepth 100000 in
set_option maxHeartbeats 4000000 in
theorem eqPr_run (y x : Prt) (r : Bool) (hr : (y == x) = r) (w : World) : (binOp .eql 36 (.agg (prL y).toArray) (.agg (prL x).toArray)).run Try.prog w = .ok (.bool r) w := by
  subst hr
  obtain ⟨g, ⟨a, b, c, d⟩, m, xx, yy, t, p, q⟩ := y
  obtain ⟨g', ⟨a', b', c', d'⟩, m', xx', yy', t', p', q'⟩ := x
  have hS : Try.prog.underlying 36 = some (.struct (Try.prog.fieldsOf 36)) := by kernel_rfl
  have hp : Try.prog.stoodInHeld 36 = false := by kernel_rfl
  have hS2 : Try.prog.underlying 34 = some (.struct (Try.prog.fieldsOf 34)) := by kernel_rfl
  have hp2 : Try.prog.stoodInHeld 34 = false := by kernel_rfl
  have u3 := Try.underlying3
  have i3 := Try.isAgg3
  have z3 := Try.sizeOf3
  have u4 := Try.underlying4
  have i4 := Try.isAgg4
  have z4 := Try.sizeOf4
  have ip := Try.isAgg34
  have zp := Try.sizeOf34
  have E4 : ∀ (x y z u x' y' z' u' : Int) (w : World), (Op.equalIn 9999 34 (.agg #[.int .i64 x, .int .i64 y, .int .i64 z, .int .i64 u]) (.agg #[.int .i64 x', .int .i64 y', .int .i64 z', .int .i64 u'])).run Try.prog w = .ok (eq4 x y z u x' y' z' u') w := fun x y z u x' y' z' u' w => by
    rw [show (9999 : Nat) = 9998 + 1 from rfl, run_equalIn_agg w 9998 34 _ _ hS2 hp2]
    simp only [Program.fieldsOf, Try.underlying34]
    unfold eq4
    go_simp
    by_cases h1 : x = x' <;> by_cases h2 : y = y' <;> by_cases h3 : z = z' <;> by_cases h4 : u = u' <;> simp [h1, h2, h3, h4]
  rw [run_eql_struct, show (10000 : Nat) = 9999 + 1 from rfl, run_equalIn_agg w 9999 36 _ _ hS hp]
  simp only [Program.fieldsOf, Try.underlying36, prL]
  go_simp
  have hq : ((g, (a, b, c, d), m, xx, yy, t, p, q) == (g', (a', b', c', d'), m', xx', yy', t', p', q')) = (decide (g = g') && (eq4 a b c d a' b' c' d' && (decide (m = m') && (decide (xx = xx') && (decide (yy = yy') && (decide (t = t') && (decide (p = p') && decide (q = q')))))))) := by
    rw [Bool.eq_iff_iff]
    simp [eq4, and_assoc]
  rw [hq]
  clear hq E4
  cases eq4 a b c d a' b' c' d' <;> (by_cases h1 : g = g' <;> by_cases h2 : m = m' <;> by_cases h3 : xx = xx' <;> by_cases h4 : yy = yy' <;> by_cases h5 : t = t' <;> by_cases h6 : p = p' <;> by_cases h7 : q = q' <;> simp [h1, h2, h3, h4, h5, h6, h7])
set_option maxRecDepth 100000 in
set_option maxHeartbeats 1000000 in
theorem may_ta (g a b c d x y p q : Int) (t : Bool) (w : World) (h1 : inB 0 65535 g = false) :
    Calls Try.prog 13 #[.agg #[.int .i64 g, .int .i64 a, .int .i64 b, .int .i64 c, .int .i64 d, .bool true, .int .i64 x, .int .i64 y, .bool t, .int .i64 p, .int .i64 q]] w fun e w' => e = .returned (.bool false) ∧ Below w.heap.size w w' := by
  have B0 : Below w.heap.size w (w.alloc (.cells #[.int .i64 g, .int .i64 a, .int .i64 b, .int .i64 c, .int .i64 d, .bool true, .int .i64 x, .int .i64 y, .bool t, .int .i64 p, .int .i64 q] 36)) := (Below.refl _ _).alloc (Nat.le_refl _) _
  have KP := Blk.new w 36 #[.int .i64 g, .int .i64 a, .int .i64 b, .int .i64 c, .int .i64 d, .bool true, .int .i64 x, .int .i64 y, .bool t, .int .i64 p, .int .i64 q]
  have KP := KP.below ((Below.refl _ _).alloc (Nat.le_refl _) (.cells #[.int .i64 g] 3))
  have B0 := B0.alloc B0.size (.cells #[.int .i64 g] 3)
  have CW1 := withinC 0 65535 [g] _ (show [g].all (inB 0 65535) = false by rw [List.all_cons, h1]; rfl) (w.heap.size + 1 + 1) (some ⟨w.heap.size + 1, 0, none⟩) 1 1 ((w.alloc (.cells #[.int .i64 g, .int .i64 a, .int .i64 b, .int .i64 c, .int .i64 d, .bool true, .int .i64 x, .int .i64 y, .bool t, .int .i64 p, .int .i64 q] 36)).alloc (.cells #[.int .i64 g] 3)) (by simp) (lists_row_at (w.alloc (.cells #[.int .i64 g, .int .i64 a, .int .i64 b, .int .i64 c, .int .i64 d, .bool true, .int .i64 x, .int .i64 y, .bool t, .int .i64 p, .int .i64 q] 36)) [.int .i64 g] 3 (w.heap.size + 1) (by simp)) rfl (by decide)
  clear h1
  go_enter Try.func13, Try.ntmps13
  go_wp2_with (first | (go_at_call 36; ((with_reducible refine (CW1).mono ?_); rintro e w1 ⟨rfl, b1⟩; have B1 := B0.trans (b1.mono (by simp; omega)); have KP := KP.below b1; have c0 := KP.cell 0; have c1 := KP.cell 1; have c2 := KP.cell 2; have c3 := KP.cell 3; have c4 := KP.cell 4; have c5 := KP.cell 5; have c6 := KP.cell 6; have c7 := KP.cell 7; have c8 := KP.cell 8; have c9 := KP.cell 9; have c10 := KP.cell 10; have hkl := KP.lt; simp only [List.getElem?_toArray, List.getElem?_cons_zero, List.getElem?_cons_succ] at c0 c1 c2 c3 c4 c5 c6 c7 c8 c9 c10)) | (go_at_call 37; ((with_reducible refine (CM _).mono ?_); rintro e w2 ⟨rfl, b2⟩; have B2 := B1.trans (b2.mono B1.size); have KP := KP.below b2; have c0 := KP.cell 0; have c1 := KP.cell 1; have c2 := KP.cell 2; have c3 := KP.cell 3; have c4 := KP.cell 4; have c5 := KP.cell 5; have c6 := KP.cell 6; have c7 := KP.cell 7; have c8 := KP.cell 8; have c9 := KP.cell 9; have c10 := KP.cell 10; have hkl := KP.lt; simp only [List.getElem?_toArray, List.getElem?_cons_zero, List.getElem?_cons_succ] at c0 c1 c2 c3 c4 c5 c6 c7 c8 c9 c10)))
  go_ret
  exact ⟨rfl, B1⟩
set_option maxRecDepth 100000 in
set_option maxHeartbeats 1000000 in
theorem may_tb (g a b c d x y p q : Int) (t : Bool) (w : World) (h1 : inB 0 65535 g = true) (h2 : fitM a b c d = false) :
    Calls Try.prog 13 #[.agg #[.int .i64 g, .int .i64 a, .int .i64 b, .int .i64 c, .int .i64 d, .bool true, .int .i64 x, .int .i64 y, .bool t, .int .i64 p, .int .i64 q]] w fun e w' => e = .returned (.bool false) ∧ Below w.heap.size w w' := by
  have B0 : Below w.heap.size w (w.alloc (.cells #[.int .i64 g, .int .i64 a, .int .i64 b, .int .i64 c, .int .i64 d, .bool true, .int .i64 x, .int .i64 y, .bool t, .int .i64 p, .int .i64 q] 36)) := (Below.refl _ _).alloc (Nat.le_refl _) _
  have KP := Blk.new w 36 #[.int .i64 g, .int .i64 a, .int .i64 b, .int .i64 c, .int .i64 d, .bool true, .int .i64 x, .int .i64 y, .bool t, .int .i64 p, .int .i64 q]
  have KP := KP.below ((Below.refl _ _).alloc (Nat.le_refl _) (.cells #[.int .i64 g] 3))
  have B0 := B0.alloc B0.size (.cells #[.int .i64 g] 3)
  have CW1 := withinC 0 65535 [g] _ (show [g].all (inB 0 65535) = true by rw [List.all_cons, h1]; rfl) (w.heap.size + 1 + 1) (some ⟨w.heap.size + 1, 0, none⟩) 1 1 ((w.alloc (.cells #[.int .i64 g, .int .i64 a, .int .i64 b, .int .i64 c, .int .i64 d, .bool true, .int .i64 x, .int .i64 y, .bool t, .int .i64 p, .int .i64 q] 36)).alloc (.cells #[.int .i64 g] 3)) (by simp) (lists_row_at (w.alloc (.cells #[.int .i64 g, .int .i64 a, .int .i64 b, .int .i64 c, .int .i64 d, .bool true, .int .i64 x, .int .i64 y, .bool t, .int .i64 p, .int .i64 q] 36)) [.int .i64 g] 3 (w.heap.size + 1) (by simp)) rfl (by decide)
  have CM := fun W => mayM_any a b c d W
  rw [h2] at CM
  clear h1 h2
  go_enter Try.func13, Try.ntmps13
  go_wp2_with (first | (go_at_call 36; ((with_reducible refine (CW1).mono ?_); rintro e w1 ⟨rfl, b1⟩; have B1 := B0.trans (b1.mono (by simp; omega)); have KP := KP.below b1; have c0 := KP.cell 0; have c1 := KP.cell 1; have c2 := KP.cell 2; have c3 := KP.cell 3; have c4 := KP.cell 4; have c5 := KP.cell 5; have c6 := KP.cell 6; have c7 := KP.cell 7; have c8 := KP.cell 8; have c9 := KP.cell 9; have c10 := KP.cell 10; have hkl := KP.lt; simp only [List.getElem?_toArray, List.getElem?_cons_zero, List.getElem?_cons_succ] at c0 c1 c2 c3 c4 c5 c6 c7 c8 c9 c10)) | (go_at_call 37; ((with_reducible refine (CM _).mono ?_); rintro e w2 ⟨rfl, b2⟩; have B2 := B1.trans (b2.mono B1.size); have KP := KP.below b2; have c0 := KP.cell 0; have c1 := KP.cell 1; have c2 := KP.cell 2; have c3 := KP.cell 3; have c4 := KP.cell 4; have c5 := KP.cell 5; have c6 := KP.cell 6; have c7 := KP.cell 7; have c8 := KP.cell 8; have c9 := KP.cell 9; have c10 := KP.cell 10; have hkl := KP.lt; simp only [List.getElem?_toArray, List.getElem?_cons_zero, List.getElem?_cons_succ] at c0 c1 c2 c3 c4 c5 c6 c7 c8 c9 c10)))
  go_ret
  exact ⟨rfl, B2⟩
set_option maxRecDepth 100000 in
set_option maxHeartbeats 1000000 in
theorem may_tc (g a b c d x y p q : Int) (t : Bool) (w : World) (h1 : inB 0 65535 g = true) (h2 : fitM a b c d = true) (h3 : (((g, (a, b, c, d), true, x, y, t, p, q) : Prt) == (g, (a, b, c, d), true, 0, 0, false, p, q)) = false) :
    Calls Try.prog 13 #[.agg #[.int .i64 g, .int .i64 a, .int .i64 b, .int .i64 c, .int .i64 d, .bool true, .int .i64 x, .int .i64 y, .bool t, .int .i64 p, .int .i64 q]] w fun e w' => e = .returned (.bool false) ∧ Below w.heap.size w w' := by
  have B0 : Below w.heap.size w (w.alloc (.cells #[.int .i64 g, .int .i64 a, .int .i64 b, .int .i64 c, .int .i64 d, .bool true, .int .i64 x, .int .i64 y, .bool t, .int .i64 p, .int .i64 q] 36)) := (Below.refl _ _).alloc (Nat.le_refl _) _
  have KP := Blk.new w 36 #[.int .i64 g, .int .i64 a, .int .i64 b, .int .i64 c, .int .i64 d, .bool true, .int .i64 x, .int .i64 y, .bool t, .int .i64 p, .int .i64 q]
  have KP := KP.below ((Below.refl _ _).alloc (Nat.le_refl _) (.cells #[.int .i64 g] 3))
  have B0 := B0.alloc B0.size (.cells #[.int .i64 g] 3)
  have CW1 := withinC 0 65535 [g] _ (show [g].all (inB 0 65535) = true by rw [List.all_cons, h1]; rfl) (w.heap.size + 1 + 1) (some ⟨w.heap.size + 1, 0, none⟩) 1 1 ((w.alloc (.cells #[.int .i64 g, .int .i64 a, .int .i64 b, .int .i64 c, .int .i64 d, .bool true, .int .i64 x, .int .i64 y, .bool t, .int .i64 p, .int .i64 q] 36)).alloc (.cells #[.int .i64 g] 3)) (by simp) (lists_row_at (w.alloc (.cells #[.int .i64 g, .int .i64 a, .int .i64 b, .int .i64 c, .int .i64 d, .bool true, .int .i64 x, .int .i64 y, .bool t, .int .i64 p, .int .i64 q] 36)) [.int .i64 g] 3 (w.heap.size + 1) (by simp)) rfl (by decide)
  have CE := eqPr_run (g, (a, b, c, d), true, x, y, t, p, q) (g, (a, b, c, d), true, 0, 0, false, p, q) _ h3
  have CG : ∀ w, (eqGuard .eql 36 (.tmp 16) (.tmp 25) (.agg (prL (g, (a, b, c, d), true, x, y, t, p, q)).toArray) (.agg (prL (g, (a, b, c, d), true, 0, 0, false, p, q)).toArray)).run Try.prog w = .ok () w := fun w => run_eqGuard_agg w .eql 36 _ _ _ _ (by kernel_rfl)
  simp only [prL] at CE CG
  have CM := fun W => mayM_any a b c d W
  rw [h2] at CM
  clear h1 h2 h3
  go_enter Try.func13, Try.ntmps13
  go_wp2_with (first | (go_at_call 36; ((with_reducible refine (CW1).mono ?_); rintro e w1 ⟨rfl, b1⟩; have B1 := B0.trans (b1.mono (by simp; omega)); have KP := KP.below b1; have c0 := KP.cell 0; have c1 := KP.cell 1; have c2 := KP.cell 2; have c3 := KP.cell 3; have c4 := KP.cell 4; have c5 := KP.cell 5; have c6 := KP.cell 6; have c7 := KP.cell 7; have c8 := KP.cell 8; have c9 := KP.cell 9; have c10 := KP.cell 10; have hkl := KP.lt; simp only [List.getElem?_toArray, List.getElem?_cons_zero, List.getElem?_cons_succ] at c0 c1 c2 c3 c4 c5 c6 c7 c8 c9 c10)) | (go_at_call 37; ((with_reducible refine (CM _).mono ?_); rintro e w2 ⟨rfl, b2⟩; have B2 := B1.trans (b2.mono B1.size); have KP := KP.below b2; have c0 := KP.cell 0; have c1 := KP.cell 1; have c2 := KP.cell 2; have c3 := KP.cell 3; have c4 := KP.cell 4; have c5 := KP.cell 5; have c6 := KP.cell 6; have c7 := KP.cell 7; have c8 := KP.cell 8; have c9 := KP.cell 9; have c10 := KP.cell 10; have hkl := KP.lt; simp only [List.getElem?_toArray, List.getElem?_cons_zero, List.getElem?_cons_succ] at c0 c1 c2 c3 c4 c5 c6 c7 c8 c9 c10)) | (refine wpList_load_row rfl 36 (.tmp 1) (by with_reducible rfl) w.heap.size (by rfl) 36 #[.int .i64 g, .int .i64 a, .int .i64 b, .int .i64 c, .int .i64 d, .bool true, .int .i64 x, .int .i64 y, .bool t, .int .i64 p, .int .i64 q] (0, 0) _ (by exact KP) Try.underlying36 rfl prSize ?_) | (refine wpList_build_to rfl 36 _ (by with_reducible rfl) [(0, .int .i64 g), (1, .agg #[.int .i64 a, .int .i64 b, .int .i64 c, .int .i64 d]), (2, .bool true), (6, .int .i64 p), (7, .int .i64 q)] (by rfl) (prL (g, (a, b, c, d), true, 0, 0, false, p, q)).toArray (by kernel_rfl) ?_; simp only [prL]))
  go_ret
  exact ⟨rfl, B2⟩
set_option maxRecDepth 100000 in
set_option maxHeartbeats 1000000 in
theorem may_td (g a b c d x y p q : Int) (t : Bool) (w : World) (h1 : inB 0 65535 g = true) (h2 : fitM a b c d = true) (h3 : (((g, (a, b, c, d), true, x, y, t, p, q) : Prt) == (g, (a, b, c, d), true, 0, 0, false, p, q)) = true) (r4 : Bool) (h4 : ([p, q] : List Int).all (inB 0 65535) = r4) :
    Calls Try.prog 13 #[.agg #[.int .i64 g, .int .i64 a, .int .i64 b, .int .i64 c, .int .i64 d, .bool true, .int .i64 x, .int .i64 y, .bool t, .int .i64 p, .int .i64 q]] w fun e w' => e = .returned (.bool r4) ∧ Below w.heap.size w w' := by
  have B0 : Below w.heap.size w (w.alloc (.cells #[.int .i64 g, .int .i64 a, .int .i64 b, .int .i64 c, .int .i64 d, .bool true, .int .i64 x, .int .i64 y, .bool t, .int .i64 p, .int .i64 q] 36)) := (Below.refl _ _).alloc (Nat.le_refl _) _
  have KP := Blk.new w 36 #[.int .i64 g, .int .i64 a, .int .i64 b, .int .i64 c, .int .i64 d, .bool true, .int .i64 x, .int .i64 y, .bool t, .int .i64 p, .int .i64 q]
  have KP := KP.below ((Below.refl _ _).alloc (Nat.le_refl _) (.cells #[.int .i64 g] 3))
  have B0 := B0.alloc B0.size (.cells #[.int .i64 g] 3)
  have CW1 := withinC 0 65535 [g] _ (show [g].all (inB 0 65535) = true by rw [List.all_cons, h1]; rfl) (w.heap.size + 1 + 1) (some ⟨w.heap.size + 1, 0, none⟩) 1 1 ((w.alloc (.cells #[.int .i64 g, .int .i64 a, .int .i64 b, .int .i64 c, .int .i64 d, .bool true, .int .i64 x, .int .i64 y, .bool t, .int .i64 p, .int .i64 q] 36)).alloc (.cells #[.int .i64 g] 3)) (by simp) (lists_row_at (w.alloc (.cells #[.int .i64 g, .int .i64 a, .int .i64 b, .int .i64 c, .int .i64 d, .bool true, .int .i64 x, .int .i64 y, .bool t, .int .i64 p, .int .i64 q] 36)) [.int .i64 g] 3 (w.heap.size + 1) (by simp)) rfl (by decide)
  have CE := eqPr_run (g, (a, b, c, d), true, x, y, t, p, q) (g, (a, b, c, d), true, 0, 0, false, p, q) _ h3
  have CG : ∀ w, (eqGuard .eql 36 (.tmp 16) (.tmp 25) (.agg (prL (g, (a, b, c, d), true, x, y, t, p, q)).toArray) (.agg (prL (g, (a, b, c, d), true, 0, 0, false, p, q)).toArray)).run Try.prog w = .ok () w := fun w => run_eqGuard_agg w .eql 36 _ _ _ _ (by kernel_rfl)
  simp only [prL] at CE CG
  have CW2 := fun (W : World) => withinC 0 65535 [p, q] r4 h4 (W.heap.size + 1) (some ⟨W.heap.size, 0, none⟩) 2 2 (W.alloc (.cells #[.int .i64 p, .int .i64 q] 3)) (by simp) (lists_row W [.int .i64 p, .int .i64 q] 3) rfl (by decide)
  have CM := fun W => mayM_any a b c d W
  rw [h2] at CM
  clear h1 h2 h3 h4
  go_enter Try.func13, Try.ntmps13
  go_wp2_with (first | (go_at_call 36; ((with_reducible refine (CW1).mono ?_); rintro e w1 ⟨rfl, b1⟩; have B1 := B0.trans (b1.mono (by simp; omega)); have KP := KP.below b1; have c0 := KP.cell 0; have c1 := KP.cell 1; have c2 := KP.cell 2; have c3 := KP.cell 3; have c4 := KP.cell 4; have c5 := KP.cell 5; have c6 := KP.cell 6; have c7 := KP.cell 7; have c8 := KP.cell 8; have c9 := KP.cell 9; have c10 := KP.cell 10; have hkl := KP.lt; simp only [List.getElem?_toArray, List.getElem?_cons_zero, List.getElem?_cons_succ] at c0 c1 c2 c3 c4 c5 c6 c7 c8 c9 c10)) | (go_at_call 37; ((with_reducible refine (CM _).mono ?_); rintro e w2 ⟨rfl, b2⟩; have B2 := B1.trans (b2.mono B1.size); have KP := KP.below b2; have c0 := KP.cell 0; have c1 := KP.cell 1; have c2 := KP.cell 2; have c3 := KP.cell 3; have c4 := KP.cell 4; have c5 := KP.cell 5; have c6 := KP.cell 6; have c7 := KP.cell 7; have c8 := KP.cell 8; have c9 := KP.cell 9; have c10 := KP.cell 10; have hkl := KP.lt; simp only [List.getElem?_toArray, List.getElem?_cons_zero, List.getElem?_cons_succ] at c0 c1 c2 c3 c4 c5 c6 c7 c8 c9 c10)) | (refine wpList_load_row rfl 36 (.tmp 1) (by with_reducible rfl) w.heap.size (by rfl) 36 #[.int .i64 g, .int .i64 a, .int .i64 b, .int .i64 c, .int .i64 d, .bool true, .int .i64 x, .int .i64 y, .bool t, .int .i64 p, .int .i64 q] (0, 0) _ (by exact KP) Try.underlying36 rfl prSize ?_) | (refine wpList_build_to rfl 36 _ (by with_reducible rfl) [(0, .int .i64 g), (1, .agg #[.int .i64 a, .int .i64 b, .int .i64 c, .int .i64 d]), (2, .bool true), (6, .int .i64 p), (7, .int .i64 q)] (by rfl) (prL (g, (a, b, c, d), true, 0, 0, false, p, q)).toArray (by kernel_rfl) ?_; simp only [prL]) | (go_at_call 36; ((with_reducible refine (CW2 w2).mono ?_); rintro e w3 ⟨rfl, b3⟩; have B3 := (B2.alloc B2.size (.cells #[.int .i64 p, .int .i64 q] 3)).trans (b3.mono (by have := B2.size; simp; omega)))))
  go_ret
  exact ⟨rfl, B3⟩
set_option maxRecDepth 100000 in
set_option maxHeartbeats 1000000 in
theorem may_fa (g a b c d x y p q : Int) (t : Bool) (w : World) (h1 : inB 0 65535 g = false) :
    Calls Try.prog 13 #[.agg #[.int .i64 g, .int .i64 a, .int .i64 b, .int .i64 c, .int .i64 d, .bool false, .int .i64 x, .int .i64 y, .bool t, .int .i64 p, .int .i64 q]] w fun e w' => e = .returned (.bool false) ∧ Below w.heap.size w w' := by
  have B0 : Below w.heap.size w (w.alloc (.cells #[.int .i64 g, .int .i64 a, .int .i64 b, .int .i64 c, .int .i64 d, .bool false, .int .i64 x, .int .i64 y, .bool t, .int .i64 p, .int .i64 q] 36)) := (Below.refl _ _).alloc (Nat.le_refl _) _
  have KP := Blk.new w 36 #[.int .i64 g, .int .i64 a, .int .i64 b, .int .i64 c, .int .i64 d, .bool false, .int .i64 x, .int .i64 y, .bool t, .int .i64 p, .int .i64 q]
  have KP := KP.below ((Below.refl _ _).alloc (Nat.le_refl _) (.cells #[.int .i64 g] 3))
  have B0 := B0.alloc B0.size (.cells #[.int .i64 g] 3)
  have CW1 := withinC 0 65535 [g] _ (show [g].all (inB 0 65535) = false by rw [List.all_cons, h1]; rfl) (w.heap.size + 1 + 1) (some ⟨w.heap.size + 1, 0, none⟩) 1 1 ((w.alloc (.cells #[.int .i64 g, .int .i64 a, .int .i64 b, .int .i64 c, .int .i64 d, .bool false, .int .i64 x, .int .i64 y, .bool t, .int .i64 p, .int .i64 q] 36)).alloc (.cells #[.int .i64 g] 3)) (by simp) (lists_row_at (w.alloc (.cells #[.int .i64 g, .int .i64 a, .int .i64 b, .int .i64 c, .int .i64 d, .bool false, .int .i64 x, .int .i64 y, .bool t, .int .i64 p, .int .i64 q] 36)) [.int .i64 g] 3 (w.heap.size + 1) (by simp)) rfl (by decide)
  clear h1
  go_enter Try.func13, Try.ntmps13
  go_wp2_with (first | (go_at_call 36; ((with_reducible refine (CW1).mono ?_); rintro e w1 ⟨rfl, b1⟩; have B1 := B0.trans (b1.mono (by simp; omega)); have KP := KP.below b1; have c0 := KP.cell 0; have c1 := KP.cell 1; have c2 := KP.cell 2; have c3 := KP.cell 3; have c4 := KP.cell 4; have c5 := KP.cell 5; have c6 := KP.cell 6; have c7 := KP.cell 7; have c8 := KP.cell 8; have c9 := KP.cell 9; have c10 := KP.cell 10; have hkl := KP.lt; simp only [List.getElem?_toArray, List.getElem?_cons_zero, List.getElem?_cons_succ] at c0 c1 c2 c3 c4 c5 c6 c7 c8 c9 c10)) | (go_at_call 37; ((with_reducible refine (CM _).mono ?_); rintro e w2 ⟨rfl, b2⟩; have B2 := B1.trans (b2.mono B1.size); have KP := KP.below b2; have c0 := KP.cell 0; have c1 := KP.cell 1; have c2 := KP.cell 2; have c3 := KP.cell 3; have c4 := KP.cell 4; have c5 := KP.cell 5; have c6 := KP.cell 6; have c7 := KP.cell 7; have c8 := KP.cell 8; have c9 := KP.cell 9; have c10 := KP.cell 10; have hkl := KP.lt; simp only [List.getElem?_toArray, List.getElem?_cons_zero, List.getElem?_cons_succ] at c0 c1 c2 c3 c4 c5 c6 c7 c8 c9 c10)))
  go_ret
  exact ⟨rfl, B1⟩
set_option maxRecDepth 100000 in
set_option maxHeartbeats 1000000 in
theorem may_fb (g a b c d x y p q : Int) (t : Bool) (w : World) (h1 : inB 0 65535 g = true) (h2 : fitM a b c d = false) :
    Calls Try.prog 13 #[.agg #[.int .i64 g, .int .i64 a, .int .i64 b, .int .i64 c, .int .i64 d, .bool false, .int .i64 x, .int .i64 y, .bool t, .int .i64 p, .int .i64 q]] w fun e w' => e = .returned (.bool false) ∧ Below w.heap.size w w' := by
  have B0 : Below w.heap.size w (w.alloc (.cells #[.int .i64 g, .int .i64 a, .int .i64 b, .int .i64 c, .int .i64 d, .bool false, .int .i64 x, .int .i64 y, .bool t, .int .i64 p, .int .i64 q] 36)) := (Below.refl _ _).alloc (Nat.le_refl _) _
  have KP := Blk.new w 36 #[.int .i64 g, .int .i64 a, .int .i64 b, .int .i64 c, .int .i64 d, .bool false, .int .i64 x, .int .i64 y, .bool t, .int .i64 p, .int .i64 q]
  have KP := KP.below ((Below.refl _ _).alloc (Nat.le_refl _) (.cells #[.int .i64 g] 3))
  have B0 := B0.alloc B0.size (.cells #[.int .i64 g] 3)
  have CW1 := withinC 0 65535 [g] _ (show [g].all (inB 0 65535) = true by rw [List.all_cons, h1]; rfl) (w.heap.size + 1 + 1) (some ⟨w.heap.size + 1, 0, none⟩) 1 1 ((w.alloc (.cells #[.int .i64 g, .int .i64 a, .int .i64 b, .int .i64 c, .int .i64 d, .bool false, .int .i64 x, .int .i64 y, .bool t, .int .i64 p, .int .i64 q] 36)).alloc (.cells #[.int .i64 g] 3)) (by simp) (lists_row_at (w.alloc (.cells #[.int .i64 g, .int .i64 a, .int .i64 b, .int .i64 c, .int .i64 d, .bool false, .int .i64 x, .int .i64 y, .bool t, .int .i64 p, .int .i64 q] 36)) [.int .i64 g] 3 (w.heap.size + 1) (by simp)) rfl (by decide)
  have CM := fun W => mayM_any a b c d W
  rw [h2] at CM
  clear h1 h2
  go_enter Try.func13, Try.ntmps13
  go_wp2_with (first | (go_at_call 36; ((with_reducible refine (CW1).mono ?_); rintro e w1 ⟨rfl, b1⟩; have B1 := B0.trans (b1.mono (by simp; omega)); have KP := KP.below b1; have c0 := KP.cell 0; have c1 := KP.cell 1; have c2 := KP.cell 2; have c3 := KP.cell 3; have c4 := KP.cell 4; have c5 := KP.cell 5; have c6 := KP.cell 6; have c7 := KP.cell 7; have c8 := KP.cell 8; have c9 := KP.cell 9; have c10 := KP.cell 10; have hkl := KP.lt; simp only [List.getElem?_toArray, List.getElem?_cons_zero, List.getElem?_cons_succ] at c0 c1 c2 c3 c4 c5 c6 c7 c8 c9 c10)) | (go_at_call 37; ((with_reducible refine (CM _).mono ?_); rintro e w2 ⟨rfl, b2⟩; have B2 := B1.trans (b2.mono B1.size); have KP := KP.below b2; have c0 := KP.cell 0; have c1 := KP.cell 1; have c2 := KP.cell 2; have c3 := KP.cell 3; have c4 := KP.cell 4; have c5 := KP.cell 5; have c6 := KP.cell 6; have c7 := KP.cell 7; have c8 := KP.cell 8; have c9 := KP.cell 9; have c10 := KP.cell 10; have hkl := KP.lt; simp only [List.getElem?_toArray, List.getElem?_cons_zero, List.getElem?_cons_succ] at c0 c1 c2 c3 c4 c5 c6 c7 c8 c9 c10)))
  go_ret
  exact ⟨rfl, B2⟩
set_option maxRecDepth 100000 in
set_option maxHeartbeats 1000000 in
theorem may_fc (g a b c d x y p q : Int) (t : Bool) (w : World) (h1 : inB 0 65535 g = true) (h2 : fitM a b c d = true) (h3 : (((g, (a, b, c, d), false, x, y, t, p, q) : Prt) == (g, (a, b, c, d), false, x, y, t, 0, 0)) = false) :
    Calls Try.prog 13 #[.agg #[.int .i64 g, .int .i64 a, .int .i64 b, .int .i64 c, .int .i64 d, .bool false, .int .i64 x, .int .i64 y, .bool t, .int .i64 p, .int .i64 q]] w fun e w' => e = .returned (.bool false) ∧ Below w.heap.size w w' := by
  have B0 : Below w.heap.size w (w.alloc (.cells #[.int .i64 g, .int .i64 a, .int .i64 b, .int .i64 c, .int .i64 d, .bool false, .int .i64 x, .int .i64 y, .bool t, .int .i64 p, .int .i64 q] 36)) := (Below.refl _ _).alloc (Nat.le_refl _) _
  have KP := Blk.new w 36 #[.int .i64 g, .int .i64 a, .int .i64 b, .int .i64 c, .int .i64 d, .bool false, .int .i64 x, .int .i64 y, .bool t, .int .i64 p, .int .i64 q]
  have KP := KP.below ((Below.refl _ _).alloc (Nat.le_refl _) (.cells #[.int .i64 g] 3))
  have B0 := B0.alloc B0.size (.cells #[.int .i64 g] 3)
  have CW1 := withinC 0 65535 [g] _ (show [g].all (inB 0 65535) = true by rw [List.all_cons, h1]; rfl) (w.heap.size + 1 + 1) (some ⟨w.heap.size + 1, 0, none⟩) 1 1 ((w.alloc (.cells #[.int .i64 g, .int .i64 a, .int .i64 b, .int .i64 c, .int .i64 d, .bool false, .int .i64 x, .int .i64 y, .bool t, .int .i64 p, .int .i64 q] 36)).alloc (.cells #[.int .i64 g] 3)) (by simp) (lists_row_at (w.alloc (.cells #[.int .i64 g, .int .i64 a, .int .i64 b, .int .i64 c, .int .i64 d, .bool false, .int .i64 x, .int .i64 y, .bool t, .int .i64 p, .int .i64 q] 36)) [.int .i64 g] 3 (w.heap.size + 1) (by simp)) rfl (by decide)
  have CE := eqPr_run (g, (a, b, c, d), false, x, y, t, p, q) (g, (a, b, c, d), false, x, y, t, 0, 0) _ h3
  have CG : ∀ w, (eqGuard .eql 36 (.tmp 35) (.tmp 46) (.agg (prL (g, (a, b, c, d), false, x, y, t, p, q)).toArray) (.agg (prL (g, (a, b, c, d), false, x, y, t, 0, 0)).toArray)).run Try.prog w = .ok () w := fun w => run_eqGuard_agg w .eql 36 _ _ _ _ (by kernel_rfl)
  simp only [prL] at CE CG
  have CM := fun W => mayM_any a b c d W
  rw [h2] at CM
  clear h1 h2 h3
  go_enter Try.func13, Try.ntmps13
  go_wp2_with (first | (go_at_call 36; ((with_reducible refine (CW1).mono ?_); rintro e w1 ⟨rfl, b1⟩; have B1 := B0.trans (b1.mono (by simp; omega)); have KP := KP.below b1; have c0 := KP.cell 0; have c1 := KP.cell 1; have c2 := KP.cell 2; have c3 := KP.cell 3; have c4 := KP.cell 4; have c5 := KP.cell 5; have c6 := KP.cell 6; have c7 := KP.cell 7; have c8 := KP.cell 8; have c9 := KP.cell 9; have c10 := KP.cell 10; have hkl := KP.lt; simp only [List.getElem?_toArray, List.getElem?_cons_zero, List.getElem?_cons_succ] at c0 c1 c2 c3 c4 c5 c6 c7 c8 c9 c10)) | (go_at_call 37; ((with_reducible refine (CM _).mono ?_); rintro e w2 ⟨rfl, b2⟩; have B2 := B1.trans (b2.mono B1.size); have KP := KP.below b2; have c0 := KP.cell 0; have c1 := KP.cell 1; have c2 := KP.cell 2; have c3 := KP.cell 3; have c4 := KP.cell 4; have c5 := KP.cell 5; have c6 := KP.cell 6; have c7 := KP.cell 7; have c8 := KP.cell 8; have c9 := KP.cell 9; have c10 := KP.cell 10; have hkl := KP.lt; simp only [List.getElem?_toArray, List.getElem?_cons_zero, List.getElem?_cons_succ] at c0 c1 c2 c3 c4 c5 c6 c7 c8 c9 c10)) | (refine wpList_load_row rfl 36 (.tmp 1) (by with_reducible rfl) w.heap.size (by rfl) 36 #[.int .i64 g, .int .i64 a, .int .i64 b, .int .i64 c, .int .i64 d, .bool false, .int .i64 x, .int .i64 y, .bool t, .int .i64 p, .int .i64 q] (0, 0) _ (by exact KP) Try.underlying36 rfl prSize ?_) | (refine wpList_build_to rfl 36 _ (by with_reducible rfl) [(0, .int .i64 g), (1, .agg #[.int .i64 a, .int .i64 b, .int .i64 c, .int .i64 d]), (3, .int .i64 x), (4, .int .i64 y), (5, .bool t)] (by rfl) (prL (g, (a, b, c, d), false, x, y, t, 0, 0)).toArray (by kernel_rfl) ?_; simp only [prL]))
  go_ret
  exact ⟨rfl, B2⟩
set_option maxRecDepth 100000 in
set_option maxHeartbeats 1000000 in
theorem may_fd (g a b c d x y p q : Int) (t : Bool) (w : World) (h1 : inB 0 65535 g = true) (h2 : fitM a b c d = true) (h3 : (((g, (a, b, c, d), false, x, y, t, p, q) : Prt) == (g, (a, b, c, d), false, x, y, t, 0, 0)) = true) (r4 : Bool) (h4 : ([x, y] : List Int).all (inB (-32768) 32767) = r4) :
    Calls Try.prog 13 #[.agg #[.int .i64 g, .int .i64 a, .int .i64 b, .int .i64 c, .int .i64 d, .bool false, .int .i64 x, .int .i64 y, .bool t, .int .i64 p, .int .i64 q]] w fun e w' => e = .returned (.bool r4) ∧ Below w.heap.size w w' := by
  have B0 : Below w.heap.size w (w.alloc (.cells #[.int .i64 g, .int .i64 a, .int .i64 b, .int .i64 c, .int .i64 d, .bool false, .int .i64 x, .int .i64 y, .bool t, .int .i64 p, .int .i64 q] 36)) := (Below.refl _ _).alloc (Nat.le_refl _) _
  have KP := Blk.new w 36 #[.int .i64 g, .int .i64 a, .int .i64 b, .int .i64 c, .int .i64 d, .bool false, .int .i64 x, .int .i64 y, .bool t, .int .i64 p, .int .i64 q]
  have KP := KP.below ((Below.refl _ _).alloc (Nat.le_refl _) (.cells #[.int .i64 g] 3))
  have B0 := B0.alloc B0.size (.cells #[.int .i64 g] 3)
  have CW1 := withinC 0 65535 [g] _ (show [g].all (inB 0 65535) = true by rw [List.all_cons, h1]; rfl) (w.heap.size + 1 + 1) (some ⟨w.heap.size + 1, 0, none⟩) 1 1 ((w.alloc (.cells #[.int .i64 g, .int .i64 a, .int .i64 b, .int .i64 c, .int .i64 d, .bool false, .int .i64 x, .int .i64 y, .bool t, .int .i64 p, .int .i64 q] 36)).alloc (.cells #[.int .i64 g] 3)) (by simp) (lists_row_at (w.alloc (.cells #[.int .i64 g, .int .i64 a, .int .i64 b, .int .i64 c, .int .i64 d, .bool false, .int .i64 x, .int .i64 y, .bool t, .int .i64 p, .int .i64 q] 36)) [.int .i64 g] 3 (w.heap.size + 1) (by simp)) rfl (by decide)
  have CE := eqPr_run (g, (a, b, c, d), false, x, y, t, p, q) (g, (a, b, c, d), false, x, y, t, 0, 0) _ h3
  have CG : ∀ w, (eqGuard .eql 36 (.tmp 35) (.tmp 46) (.agg (prL (g, (a, b, c, d), false, x, y, t, p, q)).toArray) (.agg (prL (g, (a, b, c, d), false, x, y, t, 0, 0)).toArray)).run Try.prog w = .ok () w := fun w => run_eqGuard_agg w .eql 36 _ _ _ _ (by kernel_rfl)
  simp only [prL] at CE CG
  have CW2 := fun (W : World) => withinC (-32768) 32767 [x, y] r4 h4 (W.heap.size + 1) (some ⟨W.heap.size, 0, none⟩) 2 2 (W.alloc (.cells #[.int .i64 x, .int .i64 y] 3)) (by simp) (lists_row W [.int .i64 x, .int .i64 y] 3) rfl (by decide)
  have CM := fun W => mayM_any a b c d W
  rw [h2] at CM
  clear h1 h2 h3 h4
  go_enter Try.func13, Try.ntmps13
  go_wp2_with (first | (go_at_call 36; ((with_reducible refine (CW1).mono ?_); rintro e w1 ⟨rfl, b1⟩; have B1 := B0.trans (b1.mono (by simp; omega)); have KP := KP.below b1; have c0 := KP.cell 0; have c1 := KP.cell 1; have c2 := KP.cell 2; have c3 := KP.cell 3; have c4 := KP.cell 4; have c5 := KP.cell 5; have c6 := KP.cell 6; have c7 := KP.cell 7; have c8 := KP.cell 8; have c9 := KP.cell 9; have c10 := KP.cell 10; have hkl := KP.lt; simp only [List.getElem?_toArray, List.getElem?_cons_zero, List.getElem?_cons_succ] at c0 c1 c2 c3 c4 c5 c6 c7 c8 c9 c10)) | (go_at_call 37; ((with_reducible refine (CM _).mono ?_); rintro e w2 ⟨rfl, b2⟩; have B2 := B1.trans (b2.mono B1.size); have KP := KP.below b2; have c0 := KP.cell 0; have c1 := KP.cell 1; have c2 := KP.cell 2; have c3 := KP.cell 3; have c4 := KP.cell 4; have c5 := KP.cell 5; have c6 := KP.cell 6; have c7 := KP.cell 7; have c8 := KP.cell 8; have c9 := KP.cell 9; have c10 := KP.cell 10; have hkl := KP.lt; simp only [List.getElem?_toArray, List.getElem?_cons_zero, List.getElem?_cons_succ] at c0 c1 c2 c3 c4 c5 c6 c7 c8 c9 c10)) | (refine wpList_load_row rfl 36 (.tmp 1) (by with_reducible rfl) w.heap.size (by rfl) 36 #[.int .i64 g, .int .i64 a, .int .i64 b, .int .i64 c, .int .i64 d, .bool false, .int .i64 x, .int .i64 y, .bool t, .int .i64 p, .int .i64 q] (0, 0) _ (by exact KP) Try.underlying36 rfl prSize ?_) | (refine wpList_build_to rfl 36 _ (by with_reducible rfl) [(0, .int .i64 g), (1, .agg #[.int .i64 a, .int .i64 b, .int .i64 c, .int .i64 d]), (3, .int .i64 x), (4, .int .i64 y), (5, .bool t)] (by rfl) (prL (g, (a, b, c, d), false, x, y, t, 0, 0)).toArray (by kernel_rfl) ?_; simp only [prL]) | (go_at_call 36; ((with_reducible refine (CW2 w2).mono ?_); rintro e w3 ⟨rfl, b3⟩; have B3 := (B2.alloc B2.size (.cells #[.int .i64 x, .int .i64 y] 3)).trans (b3.mono (by have := B2.size; simp; omega)))))
  go_ret
  exact ⟨rfl, B3⟩
/-- May a part be? -/
def mayP (p : Prt) : Bool := inB 0 65535 p.1 && (fitM p.2.1.1 p.2.1.2.1 p.2.1.2.2.1 p.2.1.2.2.2 && (if p.2.2.1 then (p.2.2.2.1 == 0 && (p.2.2.2.2.1 == 0 && !p.2.2.2.2.2.1)) && (inB 0 65535 p.2.2.2.2.2.2.1 && inB 0 65535 p.2.2.2.2.2.2.2) else (p.2.2.2.2.2.2.1 == 0 && p.2.2.2.2.2.2.2 == 0) && (inB (-32768) 32767 p.2.2.2.1 && inB (-32768) 32767 p.2.2.2.2.1)))
theorem pmay_any (P : Prt) (w : World) : Calls Try.prog 13 #[.agg (prL P).toArray] w fun e w' => e = .returned (.bool (mayP P)) ∧ Below w.heap.size w w' := by
  obtain ⟨g, ⟨a, b, c, d⟩, m, x, y, t, p, q⟩ := P
  unfold mayP
  simp only [prL]
  cases h1 : inB 0 65535 g
  · cases m
    · exact may_fa g a b c d x y p q t w h1
    · exact may_ta g a b c d x y p q t w h1
  · cases h2 : fitM a b c d
    · cases m
      · exact may_fb g a b c d x y p q t w h1 h2
      · exact may_tb g a b c d x y p q t w h1 h2
    · cases m
      · have EQ : (((g, (a, b, c, d), false, x, y, t, p, q) : Prt) == (g, (a, b, c, d), false, x, y, t, 0, 0)) = (p == 0 && q == 0) := by rw [Bool.eq_iff_iff]; simp
        cases h3 : (p == 0 && q == 0)
        · exact may_fc g a b c d x y p q t w h1 h2 (EQ.trans h3)
        · exact (may_fd g a b c d x y p q t w h1 h2 (EQ.trans h3) _ rfl).mono fun e w' ⟨k1, k2⟩ => ⟨by rw [k1]; simp, k2⟩
      · have EQ : (((g, (a, b, c, d), true, x, y, t, p, q) : Prt) == (g, (a, b, c, d), true, 0, 0, false, p, q)) = (x == 0 && (y == 0 && !t)) := by rw [Bool.eq_iff_iff]; simp
        cases h3 : (x == 0 && (y == 0 && !t))
        · exact may_tc g a b c d x y p q t w h1 h2 (EQ.trans h3)
        · exact (may_td g a b c d x y p q t w h1 h2 (EQ.trans h3) _ rfl).mono fun e w' ⟨k1, k2⟩ => ⟨by rw [k1]; simp, k2⟩

end Go.Proofs.Ytekailhghjideaa
