/- FlattenDots: the dot of any point at any scale, and how far the pen moves, are as the document says; what may not be is refused; for every scale, point and int. -/
import Derived.Test.YtlacjifnniahhaaCFl18

namespace Go.Proofs.Ytlacjifnniahhaa.flattenDots
open Go Go.ChangeShapes Go.WideShapes Go.ChangeAt Go.RowKit Go.Shelf

set_option linter.unusedVariables false
set_option linter.unusedSimpArgs false
theorem neF2_run (a b a' b' : Int) (r : Bool) (hr : (!(a == a' && b == b')) = r) (w : World) :
    (binOp .neq 27 (.agg #[.int .i64 a, .int .i64 b]) (.agg #[.int .i64 a', .int .i64 b'])).run Try.prog w = .ok (.bool r) w := by
  subst hr
  have hS : Try.prog.underlying 27 = some (.struct (Try.prog.fieldsOf 27)) := by kernel_rfl
  have hp : Try.prog.stoodInHeld 27 = false := by kernel_rfl
  have u3 := Try.underlying3
  have a3 := Try.isAgg3
  have z3 := Try.sizeOf3
  rw [run_neq_struct, show (10000 : Nat) = 9999 + 1 from rfl, run_equalIn_agg w 9999 27 _ _ hS hp]
  simp only [Program.fieldsOf, Try.underlying27]
  go_simp
  by_cases h1 : a = a' <;> by_cases h2 : b = b' <;> simp [h1, h2]
theorem neF2_guard (a b a' b' : Int) (x y : Operand) (w : World) :
    (eqGuard .neq 27 x y (.agg #[.int .i64 a, .int .i64 b]) (.agg #[.int .i64 a', .int .i64 b'])).run Try.prog w = .ok () w :=
  run_eqGuard_agg w .neq 27 x y _ _ (by kernel_rfl)
theorem rdot_any (s : Sc) (x y z : Int) (w : World) (h : mscB s = true) : Calls Try.prog 12 #[.agg #[.int .i64 s.u, .int .i64 s.p, .int .i64 s.fx, .int .i64 s.fy], .agg #[.int .i64 x, .int .i64 y, .int .i64 z]] w fun e w' => e = .returned (.tuple #[.agg #[.int .i64 (dotD s x y).1, .int .i64 (dotD s x y).2], .int .i64 (dotE s x y)]) ∧ Below w.heap.size w w' := by
  cases hm : (mayB x && mayB y)
  · exact rdot_over s x y z w h hm
  · exact rdot_ok s x y z w h hm
set_option maxRecDepth 100000 in
set_option maxHeartbeats 4000000 in
theorem walk_bad (s : Sc) (x y z n : Int) (w : World) (hm : mscB s = false) : Calls Try.prog 3 #[.agg #[.int .i64 s.u, .int .i64 s.p, .int .i64 s.fx, .int .i64 s.fy], .agg #[.int .i64 x, .int .i64 y, .int .i64 z], .int .i64 n] w fun e w' => e = .returned (.bool true) ∧ Below w.heap.size w w' := by
  have CD := fun W => fdot_any s x y z W
  have CA := fun W => fadv_any s n W
  have CL := fun W => lives21 W
  have CM := fun W => rmsc_any s W
  rw [hm] at CM
  have z1 : dotE s x y = 210 := by unfold dotE; rw [hm]; rfl
  have z2 : dotD s x y = (0, 0) := by unfold dotD; rw [z1]; rfl
  have z3 : advE s n = 210 := by unfold advE; rw [hm]; rfl
  have z4 : advD s n = 0 := by unfold advD; rw [z3]; rfl
  obtain ⟨D, hDq⟩ : ∃ D, D = dotD s x y := ⟨_, rfl⟩
  obtain ⟨g, hg⟩ : ∃ g, g = dotE s x y := ⟨_, rfl⟩
  obtain ⟨N, hN⟩ : ∃ N, N = advD s n := ⟨_, rfl⟩
  obtain ⟨f, hf⟩ : ∃ f, f = advE s n := ⟨_, rfl⟩
  rw [← hDq, ← hg] at CD
  rw [← hN, ← hf] at CA
  rw [z2] at hDq
  rw [z1] at hg
  rw [z4] at hN
  rw [z3] at hf
  subst hDq hg hN hf
  have B0 := below_a2 w (.cells #[.int .i64 s.u, .int .i64 s.p, .int .i64 s.fx, .int .i64 s.fy] 23) (.cells #[.int .i64 x, .int .i64 y, .int .i64 z] 25)
  have K2 := (Blk.new w 23 #[.int .i64 s.u, .int .i64 s.p, .int .i64 s.fx, .int .i64 s.fy]).below (below_a1 _ (.cells #[.int .i64 x, .int .i64 y, .int .i64 z] 25))
  have K3 := Blk.new (w.alloc (.cells #[.int .i64 s.u, .int .i64 s.p, .int .i64 s.fx, .int .i64 s.fy] 23)) 25 #[.int .i64 x, .int .i64 y, .int .i64 z]
  simp only [World.size_alloc] at K3
  obtain ⟨wA, hwA⟩ : ∃ wA, wA = (w.alloc (.cells #[.int .i64 s.u, .int .i64 s.p, .int .i64 s.fx, .int .i64 s.fy] 23)).alloc (.cells #[.int .i64 x, .int .i64 y, .int .i64 z] 25) := ⟨_, rfl⟩
  rw [← hwA] at B0 K2 K3
  have HA := Lib.hid hwA
  have HB0 := Lib.hid B0
  have HD : Hid (∀ V : World, Below wA.heap.size wA V → V.cell? ⟨w.heap.size, 0, none⟩ = some (.int .i64 s.u) ∧ V.cell? ⟨w.heap.size, 1, none⟩ = some (.int .i64 s.p) ∧ V.cell? ⟨w.heap.size, 2, none⟩ = some (.int .i64 s.fx) ∧ V.cell? ⟨w.heap.size, 3, none⟩ = some (.int .i64 s.fy) ∧ w.heap.size < V.heap.size ∧ V.cell? ⟨w.heap.size + 1, 0, none⟩ = some (.int .i64 x) ∧ V.cell? ⟨w.heap.size + 1, 1, none⟩ = some (.int .i64 y) ∧ V.cell? ⟨w.heap.size + 1, 2, none⟩ = some (.int .i64 z) ∧ w.heap.size + 1 < V.heap.size) := Lib.hid fun V hV => ⟨(hV.cell (p := ⟨w.heap.size, 0, none⟩) K2.lt).trans (K2.cell 0), (hV.cell (p := ⟨w.heap.size, 1, none⟩) K2.lt).trans (K2.cell 1), (hV.cell (p := ⟨w.heap.size, 2, none⟩) K2.lt).trans (K2.cell 2), (hV.cell (p := ⟨w.heap.size, 3, none⟩) K2.lt).trans (K2.cell 3), Nat.lt_of_lt_of_le K2.lt hV.size, (hV.cell (p := ⟨w.heap.size + 1, 0, none⟩) K3.lt).trans (K3.cell 0), (hV.cell (p := ⟨w.heap.size + 1, 1, none⟩) K3.lt).trans (K3.cell 1), (hV.cell (p := ⟨w.heap.size + 1, 2, none⟩) K3.lt).trans (K3.cell 2), Nat.lt_of_lt_of_le K3.lt hV.size⟩
  clear hwA B0 K2 K3 z1 z2 z3 z4 hm
  go_enter Try.func3, Try.ntmps3
  go_upto_region 1 with fail
  rw [← HA.out]
  obtain ⟨s0, s1, s2, s3, sl, q0, q1, q2, ql⟩ := HD.out wA (Below.refl _ _)
  go_upto_region 2 with (go_at_call 8; ((with_reducible refine (CD _).mono ?_); rintro e w2 ⟨rfl, b2⟩))
  obtain ⟨W2, hW2⟩ : ∃ W2, W2 = w2.alloc (.cells #[.int .i64 0, .int .i64 0] 27) := ⟨_, rfl⟩
  have kd : Blk W2 w2.heap.size 27 #[.int .i64 0, .int .i64 0] := hW2 ▸ Blk.new _ _ _
  have B2 : Below wA.heap.size wA W2 := hW2 ▸ b2.alloc b2.size _
  rw [← hW2]
  obtain ⟨bd, hbd⟩ : ∃ bd, bd = w2.heap.size := ⟨_, rfl⟩
  rw [← hbd] at kd ⊢
  clear hW2 hbd b2
  clear s0 s1 s2 s3 sl q0 q1 q2 ql
  obtain ⟨s0, s1, s2, s3, sl, q0, q1, q2, ql⟩ := HD.out W2 (B2)
  go_upto_region 5 with (first
    | (go_at_call 9; ((with_reducible refine (CA _).mono ?_); rintro e w3 ⟨rfl, b3⟩))
    | (go_at_call 10; ((with_reducible refine (CL _).mono ?_); rintro e w4 ⟨rfl, b4⟩)))
  have b5 := b3.trans (b4.mono b3.size)
  have B4 := B2.trans (b5.mono B2.size)
  have kd4 := kd.below b5
  clear s0 s1 s2 s3 sl q0 q1 q2 ql
  obtain ⟨s0, s1, s2, s3, sl, q0, q1, q2, ql⟩ := HD.out w4 (B4)
  clear b3 b4 b5 B2 kd
  have p1 := eqF2_run 0 0 0 0 true rfl
  have p2 := eqF2_guard 0 0 0 0
  go_upto_region 6 with (go_at_call 11; ((with_reducible refine (CM _).mono ?_); rintro e w5 ⟨rfl, b5⟩))
  have kd5 := kd4.below b5
  have d0 := kd5.cell 0; have d1 := kd5.cell 1; have dl := kd5.lt; simp only [List.getElem?_toArray, List.getElem?_cons_succ, List.getElem?_cons_zero] at d0 d1
  go_wp2
  go_ret
  exact ⟨rfl, HB0.out.trans ((B4.trans (b5.mono B4.size)).mono HB0.out.size)⟩
set_option maxRecDepth 100000 in
set_option maxHeartbeats 4000000 in
theorem walk_out (s : Sc) (x y z n : Int) (w : World) (hm : mscB s = true) (hn : wtZ (-65536) 65536 n = false) : Calls Try.prog 3 #[.agg #[.int .i64 s.u, .int .i64 s.p, .int .i64 s.fx, .int .i64 s.fy], .agg #[.int .i64 x, .int .i64 y, .int .i64 z], .int .i64 n] w fun e w' => e = .returned (.bool true) ∧ Below w.heap.size w w' := by
  have CD := fun W => fdot_any s x y z W
  have CA := fun W => fadv_any s n W
  have CL := fun W => lives21 W
  have CM := fun W => rmsc_any s W
  have CR := fun W => rdot_any s x y z W hm
  rw [hm] at CM
  have z3 : advE s n = 10 := by unfold advE; rw [hm, hn]; rfl
  have z4 : advD s n = 0 := by unfold advD; rw [z3]; rfl
  obtain ⟨D, hDq⟩ : ∃ D, D = dotD s x y := ⟨_, rfl⟩
  obtain ⟨g, hg⟩ : ∃ g, g = dotE s x y := ⟨_, rfl⟩
  obtain ⟨N, hN⟩ : ∃ N, N = advD s n := ⟨_, rfl⟩
  obtain ⟨f, hf⟩ : ∃ f, f = advE s n := ⟨_, rfl⟩
  rw [← hDq, ← hg] at CD
  rw [← hN, ← hf] at CA
  rw [← hDq, ← hg] at CR
  rw [z4] at hN
  rw [z3] at hf
  subst hN hf
  have B0 := below_a2 w (.cells #[.int .i64 s.u, .int .i64 s.p, .int .i64 s.fx, .int .i64 s.fy] 23) (.cells #[.int .i64 x, .int .i64 y, .int .i64 z] 25)
  have K2 := (Blk.new w 23 #[.int .i64 s.u, .int .i64 s.p, .int .i64 s.fx, .int .i64 s.fy]).below (below_a1 _ (.cells #[.int .i64 x, .int .i64 y, .int .i64 z] 25))
  have K3 := Blk.new (w.alloc (.cells #[.int .i64 s.u, .int .i64 s.p, .int .i64 s.fx, .int .i64 s.fy] 23)) 25 #[.int .i64 x, .int .i64 y, .int .i64 z]
  simp only [World.size_alloc] at K3
  obtain ⟨wA, hwA⟩ : ∃ wA, wA = (w.alloc (.cells #[.int .i64 s.u, .int .i64 s.p, .int .i64 s.fx, .int .i64 s.fy] 23)).alloc (.cells #[.int .i64 x, .int .i64 y, .int .i64 z] 25) := ⟨_, rfl⟩
  rw [← hwA] at B0 K2 K3
  have HA := Lib.hid hwA
  have HB0 := Lib.hid B0
  have HD : Hid (∀ V : World, Below wA.heap.size wA V → V.cell? ⟨w.heap.size, 0, none⟩ = some (.int .i64 s.u) ∧ V.cell? ⟨w.heap.size, 1, none⟩ = some (.int .i64 s.p) ∧ V.cell? ⟨w.heap.size, 2, none⟩ = some (.int .i64 s.fx) ∧ V.cell? ⟨w.heap.size, 3, none⟩ = some (.int .i64 s.fy) ∧ w.heap.size < V.heap.size ∧ V.cell? ⟨w.heap.size + 1, 0, none⟩ = some (.int .i64 x) ∧ V.cell? ⟨w.heap.size + 1, 1, none⟩ = some (.int .i64 y) ∧ V.cell? ⟨w.heap.size + 1, 2, none⟩ = some (.int .i64 z) ∧ w.heap.size + 1 < V.heap.size) := Lib.hid fun V hV => ⟨(hV.cell (p := ⟨w.heap.size, 0, none⟩) K2.lt).trans (K2.cell 0), (hV.cell (p := ⟨w.heap.size, 1, none⟩) K2.lt).trans (K2.cell 1), (hV.cell (p := ⟨w.heap.size, 2, none⟩) K2.lt).trans (K2.cell 2), (hV.cell (p := ⟨w.heap.size, 3, none⟩) K2.lt).trans (K2.cell 3), Nat.lt_of_lt_of_le K2.lt hV.size, (hV.cell (p := ⟨w.heap.size + 1, 0, none⟩) K3.lt).trans (K3.cell 0), (hV.cell (p := ⟨w.heap.size + 1, 1, none⟩) K3.lt).trans (K3.cell 1), (hV.cell (p := ⟨w.heap.size + 1, 2, none⟩) K3.lt).trans (K3.cell 2), Nat.lt_of_lt_of_le K3.lt hV.size⟩
  clear hwA B0 K2 K3 z3 z4 hDq hg
  go_enter Try.func3, Try.ntmps3
  go_upto_region 1 with fail
  rw [← HA.out]
  obtain ⟨s0, s1, s2, s3, sl, q0, q1, q2, ql⟩ := HD.out wA (Below.refl _ _)
  go_upto_region 2 with (go_at_call 8; ((with_reducible refine (CD _).mono ?_); rintro e w2 ⟨rfl, b2⟩))
  obtain ⟨W2, hW2⟩ : ∃ W2, W2 = w2.alloc (.cells #[.int .i64 D.1, .int .i64 D.2] 27) := ⟨_, rfl⟩
  have kd : Blk W2 w2.heap.size 27 #[.int .i64 D.1, .int .i64 D.2] := hW2 ▸ Blk.new _ _ _
  have B2 : Below wA.heap.size wA W2 := hW2 ▸ b2.alloc b2.size _
  rw [← hW2]
  obtain ⟨bd, hbd⟩ : ∃ bd, bd = w2.heap.size := ⟨_, rfl⟩
  rw [← hbd] at kd ⊢
  clear hW2 hbd b2
  clear s0 s1 s2 s3 sl q0 q1 q2 ql
  obtain ⟨s0, s1, s2, s3, sl, q0, q1, q2, ql⟩ := HD.out W2 (B2)
  go_upto_region 5 with (first
    | (go_at_call 9; ((with_reducible refine (CA _).mono ?_); rintro e w3 ⟨rfl, b3⟩))
    | (go_at_call 10; ((with_reducible refine (CL _).mono ?_); rintro e w4 ⟨rfl, b4⟩)))
  have b5 := b3.trans (b4.mono b3.size)
  have B4 := B2.trans (b5.mono B2.size)
  have kd4 := kd.below b5
  clear s0 s1 s2 s3 sl q0 q1 q2 ql
  obtain ⟨s0, s1, s2, s3, sl, q0, q1, q2, ql⟩ := HD.out w4 (B4)
  clear b3 b4 b5 B2 kd
  have p1 := neF2_run D.1 D.2 D.1 D.2 false (by simp)
  have p2 := neF2_guard D.1 D.2 D.1 D.2
  go_upto_region 7 with (go_at_call 11; ((with_reducible refine (CM _).mono ?_); rintro e w5 ⟨rfl, b5⟩))
  have kd5 := kd4.below b5
  have B5 := B4.trans (b5.mono B4.size)
  clear s0 s1 s2 s3 sl q0 q1 q2 ql
  obtain ⟨s0, s1, s2, s3, sl, q0, q1, q2, ql⟩ := HD.out w5 (B5)
  go_upto_region 8 with (go_at_call 12; ((with_reducible refine (CR _).mono ?_); rintro e w6 ⟨rfl, b6⟩))
  obtain ⟨W6, hW6⟩ : ∃ W6, W6 = w6.alloc (.cells #[.int .i64 D.1, .int .i64 D.2] 27) := ⟨_, rfl⟩
  have ke : Blk W6 w6.heap.size 27 #[.int .i64 D.1, .int .i64 D.2] := hW6 ▸ Blk.new _ _ _
  have c6 : Below w5.heap.size w5 W6 := hW6 ▸ b6.alloc b6.size _
  rw [← hW6]
  obtain ⟨be, hbe⟩ : ∃ be, be = w6.heap.size := ⟨_, rfl⟩
  rw [← hbe] at ke ⊢
  have kd6 := kd5.below c6
  have B6 := B5.trans (c6.mono B5.size)
  clear hW6 hbe b6
  clear s0 s1 s2 s3 sl q0 q1 q2 ql
  obtain ⟨s0, s1, s2, s3, sl, q0, q1, q2, ql⟩ := HD.out W6 (B6)
  have d0 := kd6.cell 0; have d1 := kd6.cell 1; have dl := kd6.lt; simp only [List.getElem?_toArray, List.getElem?_cons_succ, List.getElem?_cons_zero] at d0 d1
  have e0 := ke.cell 0; have e1 := ke.cell 1; have el := ke.lt; simp only [List.getElem?_toArray, List.getElem?_cons_succ, List.getElem?_cons_zero] at e0 e1
  clear b5 kd4 kd5 kd6 ke c6
  have hn2 : n < -65536 ∨ 65536 < n := by unfold wtZ at hn; simp at hn; omega
  have hn3 : (n < -65536 ∧ decide (n < -65536) = true) ∨ (decide (n < -65536) = false ∧ decide (65536 < n) = true) := by
    by_cases h : n < -65536
    · exact .inl ⟨h, by simpa using h⟩
    · exact .inr ⟨by simp; omega, by simp; omega⟩
  clear hn hn2
  rcases hn3 with ⟨_, h1⟩ | ⟨h1, h2⟩
  · go_wp2
    go_ret
    exact ⟨rfl, HB0.out.trans (B6.mono HB0.out.size)⟩
  · go_wp2
    go_ret
    exact ⟨rfl, HB0.out.trans (B6.mono HB0.out.size)⟩
set_option maxRecDepth 100000 in
set_option maxHeartbeats 4000000 in
theorem walk_ok (s : Sc) (x y z n : Int) (w : World) (hm : mscB s = true) (hn : wtZ (-65536) 65536 n = true) : Calls Try.prog 3 #[.agg #[.int .i64 s.u, .int .i64 s.p, .int .i64 s.fx, .int .i64 s.fy], .agg #[.int .i64 x, .int .i64 y, .int .i64 z], .int .i64 n] w fun e w' => e = .returned (.bool true) ∧ Below w.heap.size w w' := by
  have CD := fun W => fdot_any s x y z W
  have CA := fun W => fadv_any s n W
  have CL := fun W => lives21 W
  have CM := fun W => rmsc_any s W
  have CR := fun W => rdot_any s x y z W hm
  rw [hm] at CM
  have z3 : advE s n = 0 := by unfold advE; rw [hm, hn]; rfl
  have z4 : advD s n = scZ s n 1 := by unfold advD; rw [z3]; rfl
  obtain ⟨D, hDq⟩ : ∃ D, D = dotD s x y := ⟨_, rfl⟩
  obtain ⟨g, hg⟩ : ∃ g, g = dotE s x y := ⟨_, rfl⟩
  obtain ⟨N, hN⟩ : ∃ N, N = advD s n := ⟨_, rfl⟩
  obtain ⟨f, hf⟩ : ∃ f, f = advE s n := ⟨_, rfl⟩
  rw [← hDq, ← hg] at CD
  rw [← hN, ← hf] at CA
  rw [← hDq, ← hg] at CR
  rw [z4] at hN
  rw [z3] at hf
  subst hf
  have HNQ := Lib.hid hN
  have B0 := below_a2 w (.cells #[.int .i64 s.u, .int .i64 s.p, .int .i64 s.fx, .int .i64 s.fy] 23) (.cells #[.int .i64 x, .int .i64 y, .int .i64 z] 25)
  have K2 := (Blk.new w 23 #[.int .i64 s.u, .int .i64 s.p, .int .i64 s.fx, .int .i64 s.fy]).below (below_a1 _ (.cells #[.int .i64 x, .int .i64 y, .int .i64 z] 25))
  have K3 := Blk.new (w.alloc (.cells #[.int .i64 s.u, .int .i64 s.p, .int .i64 s.fx, .int .i64 s.fy] 23)) 25 #[.int .i64 x, .int .i64 y, .int .i64 z]
  simp only [World.size_alloc] at K3
  obtain ⟨wA, hwA⟩ : ∃ wA, wA = (w.alloc (.cells #[.int .i64 s.u, .int .i64 s.p, .int .i64 s.fx, .int .i64 s.fy] 23)).alloc (.cells #[.int .i64 x, .int .i64 y, .int .i64 z] 25) := ⟨_, rfl⟩
  rw [← hwA] at B0 K2 K3
  have HA := Lib.hid hwA
  have HB0 := Lib.hid B0
  have HD : Hid (∀ V : World, Below wA.heap.size wA V → V.cell? ⟨w.heap.size, 0, none⟩ = some (.int .i64 s.u) ∧ V.cell? ⟨w.heap.size, 1, none⟩ = some (.int .i64 s.p) ∧ V.cell? ⟨w.heap.size, 2, none⟩ = some (.int .i64 s.fx) ∧ V.cell? ⟨w.heap.size, 3, none⟩ = some (.int .i64 s.fy) ∧ w.heap.size < V.heap.size ∧ V.cell? ⟨w.heap.size + 1, 0, none⟩ = some (.int .i64 x) ∧ V.cell? ⟨w.heap.size + 1, 1, none⟩ = some (.int .i64 y) ∧ V.cell? ⟨w.heap.size + 1, 2, none⟩ = some (.int .i64 z) ∧ w.heap.size + 1 < V.heap.size) := Lib.hid fun V hV => ⟨(hV.cell (p := ⟨w.heap.size, 0, none⟩) K2.lt).trans (K2.cell 0), (hV.cell (p := ⟨w.heap.size, 1, none⟩) K2.lt).trans (K2.cell 1), (hV.cell (p := ⟨w.heap.size, 2, none⟩) K2.lt).trans (K2.cell 2), (hV.cell (p := ⟨w.heap.size, 3, none⟩) K2.lt).trans (K2.cell 3), Nat.lt_of_lt_of_le K2.lt hV.size, (hV.cell (p := ⟨w.heap.size + 1, 0, none⟩) K3.lt).trans (K3.cell 0), (hV.cell (p := ⟨w.heap.size + 1, 1, none⟩) K3.lt).trans (K3.cell 1), (hV.cell (p := ⟨w.heap.size + 1, 2, none⟩) K3.lt).trans (K3.cell 2), Nat.lt_of_lt_of_le K3.lt hV.size⟩
  clear hwA B0 K2 K3 z3 z4 hDq hg hN
  go_enter Try.func3, Try.ntmps3
  go_upto_region 1 with fail
  rw [← HA.out]
  obtain ⟨s0, s1, s2, s3, sl, q0, q1, q2, ql⟩ := HD.out wA (Below.refl _ _)
  go_upto_region 2 with (go_at_call 8; ((with_reducible refine (CD _).mono ?_); rintro e w2 ⟨rfl, b2⟩))
  obtain ⟨W2, hW2⟩ : ∃ W2, W2 = w2.alloc (.cells #[.int .i64 D.1, .int .i64 D.2] 27) := ⟨_, rfl⟩
  have kd : Blk W2 w2.heap.size 27 #[.int .i64 D.1, .int .i64 D.2] := hW2 ▸ Blk.new _ _ _
  have B2 : Below wA.heap.size wA W2 := hW2 ▸ b2.alloc b2.size _
  rw [← hW2]
  obtain ⟨bd, hbd⟩ : ∃ bd, bd = w2.heap.size := ⟨_, rfl⟩
  rw [← hbd] at kd ⊢
  clear hW2 hbd b2
  clear s0 s1 s2 s3 sl q0 q1 q2 ql
  obtain ⟨s0, s1, s2, s3, sl, q0, q1, q2, ql⟩ := HD.out W2 (B2)
  go_upto_region 5 with (first
    | (go_at_call 9; ((with_reducible refine (CA _).mono ?_); rintro e w3 ⟨rfl, b3⟩))
    | (go_at_call 10; ((with_reducible refine (CL _).mono ?_); rintro e w4 ⟨rfl, b4⟩)))
  have b5 := b3.trans (b4.mono b3.size)
  have B4 := B2.trans (b5.mono B2.size)
  have kd4 := kd.below b5
  clear s0 s1 s2 s3 sl q0 q1 q2 ql
  obtain ⟨s0, s1, s2, s3, sl, q0, q1, q2, ql⟩ := HD.out w4 (B4)
  clear b3 b4 b5 B2 kd
  have p1 := neF2_run D.1 D.2 D.1 D.2 false (by simp)
  have p2 := neF2_guard D.1 D.2 D.1 D.2
  go_upto_region 7 with (go_at_call 11; ((with_reducible refine (CM _).mono ?_); rintro e w5 ⟨rfl, b5⟩))
  have kd5 := kd4.below b5
  have B5 := B4.trans (b5.mono B4.size)
  clear s0 s1 s2 s3 sl q0 q1 q2 ql
  obtain ⟨s0, s1, s2, s3, sl, q0, q1, q2, ql⟩ := HD.out w5 (B5)
  go_upto_region 8 with (go_at_call 12; ((with_reducible refine (CR _).mono ?_); rintro e w6 ⟨rfl, b6⟩))
  obtain ⟨W6, hW6⟩ : ∃ W6, W6 = w6.alloc (.cells #[.int .i64 D.1, .int .i64 D.2] 27) := ⟨_, rfl⟩
  have ke : Blk W6 w6.heap.size 27 #[.int .i64 D.1, .int .i64 D.2] := hW6 ▸ Blk.new _ _ _
  have c6 : Below w5.heap.size w5 W6 := hW6 ▸ b6.alloc b6.size _
  rw [← hW6]
  obtain ⟨be, hbe⟩ : ∃ be, be = w6.heap.size := ⟨_, rfl⟩
  rw [← hbe] at ke ⊢
  have kd6 := kd5.below c6
  have B6 := B5.trans (c6.mono B5.size)
  clear hW6 hbe b6
  clear s0 s1 s2 s3 sl q0 q1 q2 ql
  obtain ⟨s0, s1, s2, s3, sl, q0, q1, q2, ql⟩ := HD.out W6 (B6)
  have d0 := kd6.cell 0; have d1 := kd6.cell 1; have dl := kd6.lt; simp only [List.getElem?_toArray, List.getElem?_cons_succ, List.getElem?_cons_zero] at d0 d1
  have e0 := ke.cell 0; have e1 := ke.cell 1; have el := ke.lt; simp only [List.getElem?_toArray, List.getElem?_cons_succ, List.getElem?_cons_zero] at e0 e1
  clear b5 kd4 kd5 kd6 ke c6
  have hn2 := wtZ_in hn
  have hs := mscB_in hm
  have hmul := fmul_in (a := 65536) (b := 2048) (x := n) (y := s.p) (by omega) (by omega)
  have h1 : decide (n < -65536) = false := by simp; omega
  have h2 : decide (65536 < n) = false := by simp; omega
  have CN := fun W => rnear_ok (n * s.p * 64) s.u W (by omega) (by omega) (by omega) (by omega)
  have e1 : wrap64 (n * s.p) = n * s.p := wrap_in (by omega)
  have e2 : wrap64 (n * s.p * 64) = n * s.p * 64 := wrap_in (by omega)
  have e3 : IntKind.i64.wrap (n * s.p) = n * s.p := wrap_ini (by omega)
  have e4 : IntKind.i64.wrap (n * s.p * 64) = n * s.p * 64 := wrap_ini (by omega)
  have hNN : N = near (n * s.p * 64) s.u := by rw [HNQ.out]; unfold scZ; rw [Int.one_mul]
  rw [← hNN] at CN
  clear hn hn2 hs hmul hNN hm
  go_wp2_with (go_at_call 13; ((with_reducible refine (CN _).mono ?_); rintro e w9 ⟨rfl, rfl⟩))
  go_ret
  exact ⟨rfl, HB0.out.trans (B6.mono HB0.out.size)⟩
theorem walk (s : Sc) (x y z n : Int) (wn : (Lit.int .i64 n).wf = true) (W : World) : Calls Try.prog 3 #[.agg #[.int .i64 s.u, .int .i64 s.p, .int .i64 s.fx, .int .i64 s.fy], .agg #[.int .i64 x, .int .i64 y, .int .i64 z], .int .i64 n] W fun e w' => e = .returned (.bool true) ∧ Below W.heap.size W w' := by
  cases hm : mscB s
  · exact walk_bad s x y z n W hm
  · cases hn : wtZ (-65536) 65536 n
    · exact walk_out s x y z n W hm hn
    · exact walk_ok s x y z n W hm hn

set_option linter.unusedVariables false in
set_option maxRecDepth 100000 in
theorem lifted (os : Os) (started : os.Started) (H : Type) (enc : TypeId × Value → H) :
    ReturnsInHanded {} Try.checked os 3 .any (Rows.flattenDotsSpec.pre6 enc Try.prog Try.f3 Rows.flattenDotsRow.domain false) (Rows.flattenDotsSpec.post enc Try.prog Try.f3 false true false false) := by
  refine returnsInHanded_of_change (C := Try.checked) Try.own started (by kernel_rfl) Try.func3
    (ChangeSpec.witness6 (enc := enc) (C := Try.checked) false ⟨#[], #[.agg #[.int .i64 0, .int .i64 0, .int .i64 0, .int .i64 0], .agg #[.int .i64 0, .int .i64 0, .int .i64 0], .int .i64 0], []⟩ 8 (by kernel_rfl) (by kernel_rfl) (by kernel_rfl) (by kernel_rfl)) ?_
  intro W base args ds gs before hval0 hW hcnd _
  have hval : ∀ (j : Nat) t v, Try.f3.params[j]? = some t → args[j]? = some v → Value.okWide Try.prog W .any base t v := hval0
  have hW' := hW
  obtain ⟨p, q, hA0, hV, rfl, hfz, hnd⟩ := hW
  have hA : DataW.TrodAll enc Try.prog W 0 (fun _ => true) true Try.f3.params.toList args.toList ds p := hA0
  rw [Try.params3] at hA hval
  obtain ⟨v0, vs0, d0, ds0, p0, q0, hargs, rfl, rfl, h0, r0⟩ := trodAll_cons hA
  obtain ⟨v1, vs1, d1, ds1, p1, q1, rfl, rfl, rfl, h1, r1⟩ := trodAll_cons r0
  obtain ⟨v2, vs2, d2, ds2, p2, q2, rfl, rfl, rfl, h2, r2⟩ := trodAll_cons r1
  obtain ⟨rfl, rfl, rfl⟩ := trodAll_nil r2
  obtain rfl : args = #[v0, v1, v2] := by cases args; simp_all
  obtain ⟨rfl, rfl⟩ := trodVars_none hV
  obtain ⟨s0, rfl⟩ := open_scale (hval 0 23 v0 rfl rfl) h0
  obtain ⟨x1, y1, z1, rfl⟩ := open_point3 (hval 1 25 v1 rfl rfl) h1
  obtain ⟨a2, rfl, rfl, rfl, w2⟩ := open_int Try.underlying3 (hval 2 3 v2 rfl rfl) h2
  clear hA0 hval0
  simp only [List.append_nil] at hW'
  refine (walk s0 x1 y1 z1 a2 w2 W).mono fun e W' ⟨he, hg⟩ => ?_
  subst he
  exact ⟨_, rfl, law_post Try.laidOut rfl Try.underlying4 (by kernel_rfl) rfl rfl rfl rfl hW' hg⟩

theorem over : Rows.flattenDotsRow.holds Try.pinned (OpenSpec.ofChange Rows.flattenDotsSpec) :=
  OpenClaim.holds_of_wide 3 Try.f3 rfl rfl rfl rfl rfl rfl rfl ⟨rfl, rfl, rfl, rfl, rfl⟩ rfl rfl rfl rfl rfl (by kernel_rfl) Try.func3 (by kernel_rfl)
    (of_decide_eq_true (by kernel_rfl)) (by unfold Func.isWrapper; first | (rw [if_pos (by decide +kernel)]; kernel_rfl) | (rw [if_neg (by decide +kernel)]; exact ⟨rfl, rfl⟩))
    (fun os started H enc _ => lifted os started H enc)

theorem proved : Rows.FlattenDotsSaid :=
  over

end Go.Proofs.Ytlacjifnniahhaa.flattenDots
