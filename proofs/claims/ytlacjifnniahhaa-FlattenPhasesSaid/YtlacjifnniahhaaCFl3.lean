/- Part 4 of the proof: FlD, FlE. -/
import Derived.Deep.Cut
import Derived.Deep.CutBlock
import Derived.Test.YtlacjifnniahhaaCFl2

namespace Go.Proofs.Ytlacjifnniahhaa
open Go Go.RowKit
set_option linter.unusedVariables false
set_option linter.unusedSimpArgs false

theorem near_lim {a b M : Int} (hb : 1 ≤ b) (h : -M ≤ a ∧ a ≤ M) (hM : 0 ≤ M) : -(M + 1) ≤ near a b ∧ near a b ≤ M + 1 := by
  have e : near a b = (2 * a + b) / (2 * b) := by unfold near; rw [if_neg (by omega)]
  have hm : M ≤ M * b := by
    have := Int.mul_le_mul_of_nonneg_left hb hM
    rwa [Int.mul_one] at this
  have m1 : (M + 1) * (2 * b) = 2 * (M * b) + 2 * b := by rw [Int.add_mul, Int.mul_comm 2 b, ← Int.mul_assoc]; omega
  rw [e]
  constructor
  · refine Int.le_ediv_of_mul_le (by omega) ?_
    rw [Int.neg_mul, m1]
    omega
  · refine Int.ediv_le_of_le_mul (by omega) ?_
    rw [m1]
    omega
def dotQ (s : Sc) (x y : Int) : Dt := (scZ s x 65536 + s.fx, scZ s (-y) 65536 + s.fy)
def dotE (s : Sc) (x y : Int) : Int := if mscB s then (if (mayB x && mayB y) && ltF (dotQ s x y) then 0 else 10) else 210
def dotD (s : Sc) (x y : Int) : Dt := if dotE s x y = 0 then dotQ s x y else (0, 0)
theorem scZ_in {s : Sc} {x : Int} (h : mscB s = true) (hx : -4294967296 ≤ x ∧ x ≤ 4294967296) : -600000000000000 ≤ scZ s x 65536 ∧ scZ s x 65536 ≤ 600000000000000 := by
  have hs := mscB_in h
  have := near_lim (a := x * s.p * 64) (b := 65536 * s.u) (M := 562949953421312) (by omega) (by have := scZ_lim h hx; omega) (by omega)
  unfold scZ
  omega
theorem flDtInfo : (Try.prog.info? 27).map (·.size) = some 2 := by kernel_rfl
set_option maxRecDepth 100000 in
set_option maxHeartbeats 1000000 in
theorem fdot_noscale (s : Sc) (x y z : Int) (w : World) (h : mscB s = false) : Calls Try.prog 8 #[.agg #[.int .i64 s.u, .int .i64 s.p, .int .i64 s.fx, .int .i64 s.fy], .agg #[.int .i64 x, .int .i64 y, .int .i64 z]] w fun e w' => e = .returned (.tuple #[.agg #[.int .i64 (dotD s x y).1, .int .i64 (dotD s x y).2], .int .i64 (dotE s x y)]) ∧ Below w.heap.size w w' := by
  have he : dotE s x y = 210 := by unfold dotE; rw [h]; rfl
  have hd : dotD s x y = (0, 0) := by unfold dotD; rw [he]; rfl
  rw [he, hd]
  have CM := fun W => fmsc_any s W
  rw [h] at CM
  clear he hd h
  have B0 := below_a3 w (.cells #[.int .i64 s.u, .int .i64 s.p, .int .i64 s.fx, .int .i64 s.fy] 23) (.cells #[.int .i64 x, .int .i64 y, .int .i64 z] 25) (.cells #[.int .i64 0, .int .i64 0] 27)
  have K2 := (Blk.new w 23 #[.int .i64 s.u, .int .i64 s.p, .int .i64 s.fx, .int .i64 s.fy]).below (below_a2 _ (.cells #[.int .i64 x, .int .i64 y, .int .i64 z] 25) (.cells #[.int .i64 0, .int .i64 0] 27))
  have K3 := (Blk.new (w.alloc (.cells #[.int .i64 s.u, .int .i64 s.p, .int .i64 s.fx, .int .i64 s.fy] 23)) 25 #[.int .i64 x, .int .i64 y, .int .i64 z]).below (below_a1 _ (.cells #[.int .i64 0, .int .i64 0] 27))
  have K4 := Blk.new ((w.alloc (.cells #[.int .i64 s.u, .int .i64 s.p, .int .i64 s.fx, .int .i64 s.fy] 23)).alloc (.cells #[.int .i64 x, .int .i64 y, .int .i64 z] 25)) 27 #[.int .i64 0, .int .i64 0]
  simp only [World.size_alloc] at K3 K4
  obtain ⟨wA, hwA⟩ : ∃ wA, wA = ((w.alloc (.cells #[.int .i64 s.u, .int .i64 s.p, .int .i64 s.fx, .int .i64 s.fy] 23)).alloc (.cells #[.int .i64 x, .int .i64 y, .int .i64 z] 25)).alloc (.cells #[.int .i64 0, .int .i64 0] 27) := ⟨_, rfl⟩
  rw [← hwA] at B0 K2 K3 K4
  have HA := Lib.hid hwA
  have H2 := Lib.hid K2
  have H3 := Lib.hid K3
  have H4 := Lib.hid K4
  have HB0 := Lib.hid B0
  clear hwA
  go_enter Try.func8, Try.ntmps8
  go_upto_region 1 with fail
  rw [← HA.out]
  have s0 := K2.cell 0; have s1 := K2.cell 1; have s2 := K2.cell 2; have s3 := K2.cell 3; have sl := K2.lt; simp only [List.getElem?_toArray, List.getElem?_cons_succ, List.getElem?_cons_zero] at s0 s1 s2 s3
  have q0 := K3.cell 0; have q1 := K3.cell 1; have q2 := K3.cell 2; have ql := K3.lt; simp only [List.getElem?_toArray, List.getElem?_cons_succ, List.getElem?_cons_zero] at q0 q1 q2
  go_wp2_with (first
    | (go_at_call 28; refine (CM _).mono ?_; rintro e w1 ⟨rfl, b1⟩; have H6 := Lib.hid (H4.out.below b1); have HB6 := Lib.hid (HB0.out.trans (b1.mono HB0.out.size)))
    | (refine wpList_store_row rfl 27 (.tmp 4) (.tmp 10) (by with_reducible rfl) (w.heap.size + 1 + 1) #[.int .i64 0, .int .i64 0] (by rfl) (by rfl) 27 #[.int .i64 0, .int .i64 0] (by exact H6.out) flDtInfo rfl (by simp [Value.oneCell']) ?_))
  have K5 := blk_row H6.out #[.int .i64 0, .int .i64 0]
  refine bodyPost_ret (results_row_tmp Try.results8 _ _ (w.heap.size + 1 + 1) 27 #[.int .i64 0, .int .i64 0] (0, 0) _ (.int .i64 210) (by rfl) (by rfl) (show Blk _ _ _ _ from K5) Try.underlying27 rfl (by kernel_rfl)) rfl ⟨rfl, ?_⟩
  exact HB6.out.trans ((only_row (Only.refl _ _) (.inl (by simp)) _ : Only _ _ [w.heap.size + 1 + 1]).to_below HB6.out.size (by simp; omega))
set_option maxRecDepth 100000 in
set_option maxHeartbeats 1000000 in
theorem fdot_over (s : Sc) (x y z : Int) (w : World) (h : mscB s = true) (hm : (mayB x && mayB y) = false) : Calls Try.prog 8 #[.agg #[.int .i64 s.u, .int .i64 s.p, .int .i64 s.fx, .int .i64 s.fy], .agg #[.int .i64 x, .int .i64 y, .int .i64 z]] w fun e w' => e = .returned (.tuple #[.agg #[.int .i64 (dotD s x y).1, .int .i64 (dotD s x y).2], .int .i64 (dotE s x y)]) ∧ Below w.heap.size w w' := by
  have he : dotE s x y = 10 := by unfold dotE; rw [h, hm]; rfl
  have hd : dotD s x y = (0, 0) := by unfold dotD; rw [he]; rfl
  rw [he, hd]
  have CM := fun W => fmsc_any s W
  rw [h] at CM
  have CX := fun W => may_any x W
  have CY := fun W => may_any y W
  clear he hd h
  cases hx : mayB x <;> cases hy : mayB y <;> rw [hx, hy] at hm
  all_goals first
    | (cases hm; done)
    | (
      rw [hx] at CX
      rw [hy] at CY
      clear hx hy hm
      have B0 := below_a3 w (.cells #[.int .i64 s.u, .int .i64 s.p, .int .i64 s.fx, .int .i64 s.fy] 23) (.cells #[.int .i64 x, .int .i64 y, .int .i64 z] 25) (.cells #[.int .i64 0, .int .i64 0] 27)
      have K2 := (Blk.new w 23 #[.int .i64 s.u, .int .i64 s.p, .int .i64 s.fx, .int .i64 s.fy]).below (below_a2 _ (.cells #[.int .i64 x, .int .i64 y, .int .i64 z] 25) (.cells #[.int .i64 0, .int .i64 0] 27))
      have K3 := (Blk.new (w.alloc (.cells #[.int .i64 s.u, .int .i64 s.p, .int .i64 s.fx, .int .i64 s.fy] 23)) 25 #[.int .i64 x, .int .i64 y, .int .i64 z]).below (below_a1 _ (.cells #[.int .i64 0, .int .i64 0] 27))
      have K4 := Blk.new ((w.alloc (.cells #[.int .i64 s.u, .int .i64 s.p, .int .i64 s.fx, .int .i64 s.fy] 23)).alloc (.cells #[.int .i64 x, .int .i64 y, .int .i64 z] 25)) 27 #[.int .i64 0, .int .i64 0]
      simp only [World.size_alloc] at K3 K4
      obtain ⟨wA, hwA⟩ : ∃ wA, wA = ((w.alloc (.cells #[.int .i64 s.u, .int .i64 s.p, .int .i64 s.fx, .int .i64 s.fy] 23)).alloc (.cells #[.int .i64 x, .int .i64 y, .int .i64 z] 25)).alloc (.cells #[.int .i64 0, .int .i64 0] 27) := ⟨_, rfl⟩
      rw [← hwA] at B0 K2 K3 K4
      have HA := Lib.hid hwA
      have H2 := Lib.hid K2
      have H3 := Lib.hid K3
      have H4 := Lib.hid K4
      have HB0 := Lib.hid B0
      clear hwA
      go_enter Try.func8, Try.ntmps8
      go_upto_region 1 with fail
      rw [← HA.out]
      have s0 := K2.cell 0; have s1 := K2.cell 1; have s2 := K2.cell 2; have s3 := K2.cell 3; have sl := K2.lt; simp only [List.getElem?_toArray, List.getElem?_cons_succ, List.getElem?_cons_zero] at s0 s1 s2 s3
      have q0 := K3.cell 0; have q1 := K3.cell 1; have q2 := K3.cell 2; have ql := K3.lt; simp only [List.getElem?_toArray, List.getElem?_cons_succ, List.getElem?_cons_zero] at q0 q1 q2
      go_upto_region 3 with (go_at_call 28; refine (CM _).mono ?_; rintro e w1 ⟨rfl, b1⟩; have H6 := Lib.hid (H4.out.below b1); have HB6 := Lib.hid (HB0.out.trans (b1.mono HB0.out.size)); have K2 := K2.below b1; have K3 := K3.below b1)
      have s0 := K2.cell 0; have s1 := K2.cell 1; have s2 := K2.cell 2; have s3 := K2.cell 3; have sl := K2.lt; simp only [List.getElem?_toArray, List.getElem?_cons_succ, List.getElem?_cons_zero] at s0 s1 s2 s3
      have q0 := K3.cell 0; have q1 := K3.cell 1; have q2 := K3.cell 2; have ql := K3.lt; simp only [List.getElem?_toArray, List.getElem?_cons_succ, List.getElem?_cons_zero] at q0 q1 q2
      go_wp2_with (first
        | (go_at_call 29; with_reducible first | (refine (CX _).mono ?_; rintro e w2 ⟨rfl, rfl⟩) | (refine (CY _).mono ?_; rintro e w2 ⟨rfl, rfl⟩))
        | (refine wpList_store_row rfl 27 (.tmp 4) (.tmp 21) (by with_reducible rfl) (w.heap.size + 1 + 1) #[.int .i64 0, .int .i64 0] (by rfl) (by rfl) 27 #[.int .i64 0, .int .i64 0] (by exact H6.out) flDtInfo rfl (by simp [Value.oneCell']) ?_))
      have K5 := blk_row H6.out #[.int .i64 0, .int .i64 0]
      refine bodyPost_ret (results_row_tmp Try.results8 _ _ (w.heap.size + 1 + 1) 27 #[.int .i64 0, .int .i64 0] (0, 0) _ (.int .i64 10) (by rfl) (by rfl) (show Blk _ _ _ _ from K5) Try.underlying27 rfl (by kernel_rfl)) rfl ⟨rfl, ?_⟩
      exact HB6.out.trans ((only_row (Only.refl _ _) (.inl (by simp)) _ : Only _ _ [w.heap.size + 1 + 1]).to_below HB6.out.size (by simp; omega)))
set_option maxRecDepth 100000 in
set_option maxHeartbeats 4000000 in
theorem fdot_ok (s : Sc) (x y z : Int) (w : World) (h : mscB s = true) (hm : (mayB x && mayB y) = true) : Calls Try.prog 8 #[.agg #[.int .i64 s.u, .int .i64 s.p, .int .i64 s.fx, .int .i64 s.fy], .agg #[.int .i64 x, .int .i64 y, .int .i64 z]] w fun e w' => e = .returned (.tuple #[.agg #[.int .i64 (dotD s x y).1, .int .i64 (dotD s x y).2], .int .i64 (dotE s x y)]) ∧ Below w.heap.size w w' := by
  have CM := fun W => fmsc_any s W
  rw [h] at CM
  have CX := fun W => may_any x W
  have CY := fun W => may_any y W
  rw [Bool.and_eq_true] at hm
  have ax := And.intro (mayB_lo hm.1) (mayB_hi hm.1)
  have ay := And.intro (mayB_lo hm.2) (mayB_hi hm.2)
  have lx := scZ_in h (x := x) (by omega)
  have ly := scZ_in h (x := -y) (by omega)
  have hs := mscB_in h
  have CS1 := fun W => fscaled_any s x 65536 h (by omega) (.inl rfl) W
  have CS2 := fun W => fscaled_any s (-y) 65536 h (by omega) (.inl rfl) W
  have eng : wrap64 (-y) = -y := wrap_in (by omega)
  have engi : IntKind.i64.wrap (-y) = -y := wrap_ini (by omega)
  have ea : wrap64 (scZ s x 65536 + s.fx) = (dotQ s x y).1 := wrap_in (by omega)
  have eai : IntKind.i64.wrap (scZ s x 65536 + s.fx) = (dotQ s x y).1 := wrap_ini (by omega)
  have eb : wrap64 (scZ s (-y) 65536 + s.fy) = (dotQ s x y).2 := wrap_in (by omega)
  have ebi : IntKind.i64.wrap (scZ s (-y) 65536 + s.fy) = (dotQ s x y).2 := wrap_ini (by omega)
  have CD := fun W => fmaydot_any (dotQ s x y) W
  have HLT := Lib.hid (show dotE s x y = if ltF (dotQ s x y) then 0 else 10 by unfold dotE; rw [h, hm.1, hm.2]; rfl)
  rw [hm.1] at CX
  rw [hm.2] at CY
  clear h hm ax ay lx ly hs
  have B0 := below_a3 w (.cells #[.int .i64 s.u, .int .i64 s.p, .int .i64 s.fx, .int .i64 s.fy] 23) (.cells #[.int .i64 x, .int .i64 y, .int .i64 z] 25) (.cells #[.int .i64 0, .int .i64 0] 27)
  have K2 := (Blk.new w 23 #[.int .i64 s.u, .int .i64 s.p, .int .i64 s.fx, .int .i64 s.fy]).below (below_a2 _ (.cells #[.int .i64 x, .int .i64 y, .int .i64 z] 25) (.cells #[.int .i64 0, .int .i64 0] 27))
  have K3 := (Blk.new (w.alloc (.cells #[.int .i64 s.u, .int .i64 s.p, .int .i64 s.fx, .int .i64 s.fy] 23)) 25 #[.int .i64 x, .int .i64 y, .int .i64 z]).below (below_a1 _ (.cells #[.int .i64 0, .int .i64 0] 27))
  have K4 := Blk.new ((w.alloc (.cells #[.int .i64 s.u, .int .i64 s.p, .int .i64 s.fx, .int .i64 s.fy] 23)).alloc (.cells #[.int .i64 x, .int .i64 y, .int .i64 z] 25)) 27 #[.int .i64 0, .int .i64 0]
  simp only [World.size_alloc] at K3 K4
  obtain ⟨wA, hwA⟩ : ∃ wA, wA = ((w.alloc (.cells #[.int .i64 s.u, .int .i64 s.p, .int .i64 s.fx, .int .i64 s.fy] 23)).alloc (.cells #[.int .i64 x, .int .i64 y, .int .i64 z] 25)).alloc (.cells #[.int .i64 0, .int .i64 0] 27) := ⟨_, rfl⟩
  rw [← hwA] at B0 K2 K3 K4
  have HA := Lib.hid hwA
  have H2 := Lib.hid K2
  have H3 := Lib.hid K3
  have H4 := Lib.hid K4
  have HB0 := Lib.hid B0
  clear hwA
  go_enter Try.func8, Try.ntmps8
  go_upto_region 1 with fail
  rw [← HA.out]
  have s0 := K2.cell 0; have s1 := K2.cell 1; have s2 := K2.cell 2; have s3 := K2.cell 3; have sl := K2.lt; simp only [List.getElem?_toArray, List.getElem?_cons_succ, List.getElem?_cons_zero] at s0 s1 s2 s3
  have q0 := K3.cell 0; have q1 := K3.cell 1; have q2 := K3.cell 2; have ql := K3.lt; simp only [List.getElem?_toArray, List.getElem?_cons_succ, List.getElem?_cons_zero] at q0 q1 q2
  go_upto_region 3 with (go_at_call 28; refine (CM _).mono ?_; rintro e w1 ⟨rfl, b1⟩; have H6 := Lib.hid (H4.out.below b1); have HB6 := Lib.hid (HB0.out.trans (b1.mono HB0.out.size)); have K2 := K2.below b1; have K3 := K3.below b1)
  have s0 := K2.cell 0; have s1 := K2.cell 1; have s2 := K2.cell 2; have s3 := K2.cell 3; have sl := K2.lt; simp only [List.getElem?_toArray, List.getElem?_cons_succ, List.getElem?_cons_zero] at s0 s1 s2 s3
  have q0 := K3.cell 0; have q1 := K3.cell 1; have q2 := K3.cell 2; have ql := K3.lt; simp only [List.getElem?_toArray, List.getElem?_cons_succ, List.getElem?_cons_zero] at q0 q1 q2
  go_upto_region 5 with (go_at_call 29; with_reducible first | (refine (CX _).mono ?_; rintro e w2 ⟨rfl, rfl⟩) | (refine (CY _).mono ?_; rintro e w2 ⟨rfl, rfl⟩))
  obtain ⟨wB, hwB⟩ : ∃ wB, wB = w1 := ⟨_, rfl⟩
  rw [← hwB] at H6 HB6 K2 K3 ⊢
  clear hwB b1 s0 s1 s2 s3 sl q0 q1 q2 ql
  have s0 := K2.cell 0; have s1 := K2.cell 1; have s2 := K2.cell 2; have s3 := K2.cell 3; have sl := K2.lt; simp only [List.getElem?_toArray, List.getElem?_cons_succ, List.getElem?_cons_zero] at s0 s1 s2 s3
  have q0 := K3.cell 0; have q1 := K3.cell 1; have q2 := K3.cell 2; have ql := K3.lt; simp only [List.getElem?_toArray, List.getElem?_cons_succ, List.getElem?_cons_zero] at q0 q1 q2
  have HD := Lib.hid (fun (V : World) (hV : Below wB.heap.size wB V) => And.intro ((hV.cell (p := ⟨w.heap.size, 0, none⟩) sl).trans s0) (And.intro ((hV.cell (p := ⟨w.heap.size, 1, none⟩) sl).trans s1) (And.intro ((hV.cell (p := ⟨w.heap.size, 2, none⟩) sl).trans s2) (And.intro ((hV.cell (p := ⟨w.heap.size, 3, none⟩) sl).trans s3) (And.intro ((hV.cell (p := ⟨w.heap.size + 1, 0, none⟩) ql).trans q0) (And.intro ((hV.cell (p := ⟨w.heap.size + 1, 1, none⟩) ql).trans q1) (And.intro ((hV.cell (p := ⟨w.heap.size + 1, 2, none⟩) ql).trans q2) (And.intro (Nat.lt_of_lt_of_le sl hV.size) (Nat.lt_of_lt_of_le ql hV.size)))))))))
  clear s0 s1 s2 s3 sl q0 q1 q2 ql K2 K3 K4 B0
  go_cut [6] from 22 (fun p wx => ∃ ga, p = .pointer (some ⟨ga, 0, none⟩) ∧ Hid (Blk wx ga 27 #[.int .i64 (dotQ s x y).1, .int .i64 (dotQ s x y).2] ∧ Below wB.heap.size wB wx ∧ wB.heap.size ≤ ga))
  case first =>
    have hI : Below wB.heap.size wB wB.drew := (Below.refl _ _).drew
    refine wp_region_mix (fun V => Below wB.heap.size wB V) (Mx.qs [0, 1, 2, 4, 5, 7, 8, 9, 10, 12, 13] (.two 3 16 (.q 6 (.two 11 16 (.q 14 (.q 15 (.one 16 (.one 17 .leaf)))) (.one 11 (.q 14 (.q 15 (.one 17 .leaf)))))) (.one 3 (.q 6 (.one 11 (.q 14 (.q 15 (.one 17 .leaf)))))))) (by kernel_rfl) (by kernel_rfl) hI ?_
    simp only [Mx.qs]
    obtain ⟨wd, hwd⟩ : ∃ wd, wd = wB.drew := ⟨_, rfl⟩
    rw [← hwd] at hI ⊢
    clear hwd
    repeat (first
      | (refine MixL.skip (o := ?_) ?_ ?_ ?_; rotate_left; (focus (first | (simp only [List.getElem?_toArray, List.getElem?_cons_succ, List.getElem?_cons_zero]; with_reducible rfl) | (simp only [List.getElem?_toArray, List.getElem?_cons_zero]; with_reducible rfl))); (focus rfl); simp only [Act.put, List.setIfInBounds_toArray, List.set_cons_zero, List.set_cons_succ])
      | (refine MixL.val (o := ?_) (v := ?_) ?_ ?_ ?_ ?_ ?_; rotate_left 2; (focus (first | (simp only [List.getElem?_toArray, List.getElem?_cons_succ, List.getElem?_cons_zero]; with_reducible rfl) | (simp only [List.getElem?_toArray, List.getElem?_cons_zero]; with_reducible rfl))); (focus (intro _ _ h; cases h)); (focus rfl); (focus (intro w' hJ; obtain ⟨s0, s1, s2, s3, q0, q1, q2, sl, ql⟩ := HD.out _ hJ; go_simp <;> with_reducible rfl)); simp only [Act.put, List.setIfInBounds_toArray, List.set_cons_zero, List.set_cons_succ]))
    refine MixL.both ?_ ?_
    · refine MixL.call (o := ?_) (f := ?_) (args := ?_) ?_ ?_ ?_ ?_
      rotate_left 3
      (focus (first | (simp only [List.getElem?_toArray, List.getElem?_cons_succ, List.getElem?_cons_zero]; with_reducible rfl) | (simp only [List.getElem?_toArray, List.getElem?_cons_zero]; with_reducible rfl)))
      (focus rfl)
      (focus (go_simp; (constructor <;> with_reducible rfl)))
      with_reducible refine (CS1 _).mono ?_
      rintro e w1 ⟨rfl, b1⟩
      have hI1 := hI.trans (b1.mono hI.size)
      refine ⟨_, rfl, hI1, ?_⟩
      simp only [Act.put, List.setIfInBounds_toArray, List.set_cons_zero, List.set_cons_succ]
      repeat (first
        | (refine MixL.skip (o := ?_) ?_ ?_ ?_; rotate_left; (focus (first | (simp only [List.getElem?_toArray, List.getElem?_cons_succ, List.getElem?_cons_zero]; with_reducible rfl) | (simp only [List.getElem?_toArray, List.getElem?_cons_zero]; with_reducible rfl))); (focus rfl); simp only [Act.put, List.setIfInBounds_toArray, List.set_cons_zero, List.set_cons_succ])
        | (refine MixL.val (o := ?_) (v := ?_) ?_ ?_ ?_ ?_ ?_; rotate_left 2; (focus (first | (simp only [List.getElem?_toArray, List.getElem?_cons_succ, List.getElem?_cons_zero]; with_reducible rfl) | (simp only [List.getElem?_toArray, List.getElem?_cons_zero]; with_reducible rfl))); (focus (intro _ _ h; cases h)); (focus rfl); (focus (intro w' hJ; obtain ⟨s0, s1, s2, s3, q0, q1, q2, sl, ql⟩ := HD.out _ hJ; go_simp <;> with_reducible rfl)); simp only [Act.put, List.setIfInBounds_toArray, List.set_cons_zero, List.set_cons_succ]))
      refine MixL.both ?_ ?_
      · refine MixL.call (o := ?_) (f := ?_) (args := ?_) ?_ ?_ ?_ ?_
        rotate_left 3
        (focus (first | (simp only [List.getElem?_toArray, List.getElem?_cons_succ, List.getElem?_cons_zero]; with_reducible rfl) | (simp only [List.getElem?_toArray, List.getElem?_cons_zero]; with_reducible rfl)))
        (focus rfl)
        (focus (go_simp; (constructor <;> with_reducible rfl)))
        with_reducible refine (CS2 _).mono ?_
        rintro e w2 ⟨rfl, b2⟩
        have hI2 := hI1.trans (b2.mono hI1.size)
        refine ⟨_, rfl, hI2, ?_⟩
        simp only [Act.put, List.setIfInBounds_toArray, List.set_cons_zero, List.set_cons_succ]
        repeat (first
          | (refine MixL.skip (o := ?_) ?_ ?_ ?_; rotate_left; (focus (first | (simp only [List.getElem?_toArray, List.getElem?_cons_succ, List.getElem?_cons_zero]; with_reducible rfl) | (simp only [List.getElem?_toArray, List.getElem?_cons_zero]; with_reducible rfl))); (focus rfl); simp only [Act.put, List.setIfInBounds_toArray, List.set_cons_zero, List.set_cons_succ])
          | (refine MixL.val (o := ?_) (v := ?_) ?_ ?_ ?_ ?_ ?_; rotate_left 2; (focus (first | (simp only [List.getElem?_toArray, List.getElem?_cons_succ, List.getElem?_cons_zero]; with_reducible rfl) | (simp only [List.getElem?_toArray, List.getElem?_cons_zero]; with_reducible rfl))); (focus (intro _ _ h; cases h)); (focus rfl); (focus (intro w' hJ; obtain ⟨s0, s1, s2, s3, q0, q1, q2, sl, ql⟩ := HD.out _ hJ; go_simp <;> with_reducible rfl)); simp only [Act.put, List.setIfInBounds_toArray, List.set_cons_zero, List.set_cons_succ]))
        have hI3 := hI2.alloc hI2.size (.cells #[.int .i64 0, .int .i64 0] 27)
        refine MixL.does (o := ?_) (v := ?_) (w1 := ?_) ?_ ?_ ?_ ?_ ?_
        rotate_left 3
        (focus (first | (simp only [List.getElem?_toArray, List.getElem?_cons_succ, List.getElem?_cons_zero]; with_reducible rfl) | (simp only [List.getElem?_toArray, List.getElem?_cons_zero]; with_reducible rfl)))
        (focus rfl)
        (focus (go_simp; (constructor <;> with_reducible rfl)))
        (focus (exact hI3))
        simp only [Act.put, List.setIfInBounds_toArray, List.set_cons_zero, List.set_cons_succ]
        have K9 := Blk.new w2 27 #[.int .i64 0, .int .i64 0]
        obtain ⟨ga, hga⟩ : ∃ ga, ga = w2.heap.size := ⟨_, rfl⟩
        have gale : wB.heap.size ≤ ga := by rw [hga]; exact hI2.size
        rw [← hga] at K9 ⊢
        have hS := below_setRow hI3 gale #[.int .i64 (dotQ s x y).1, .int .i64 (dotQ s x y).2]
        refine MixL.store (o := ?_) (w1 := (w2.alloc (.cells #[.int .i64 0, .int .i64 0] 27)).setRow ga #[.int .i64 (dotQ s x y).1, .int .i64 (dotQ s x y).2]) ?_ ?_ ?_ ?_ ?_
        rotate_left 1
        (focus (first | (simp only [List.getElem?_toArray, List.getElem?_cons_succ, List.getElem?_cons_zero]; with_reducible rfl) | (simp only [List.getElem?_toArray, List.getElem?_cons_zero]; with_reducible rfl)))
        (focus rfl)
        (focus (refine exec_store_row 27 _ _ (by rfl) ga #[.int .i64 (dotQ s x y).1, .int .i64 (dotQ s x y).2] (by rfl) (by rfl) 27 #[.int .i64 0, .int .i64 0] K9 flDtInfo rfl (by simp [Value.oneCell'])))
        (focus (exact hS))
        simp only [Act.put, List.setIfInBounds_toArray, List.set_cons_zero, List.set_cons_succ]
        refine MixL.nil ?_
        go_wp2
        go_meet
        exact ⟨ga, rfl, Lib.hid ⟨blk_row K9 _, hS, gale⟩⟩
      · have hI3 := hI1.alloc hI1.size (.cells #[.int .i64 0, .int .i64 0] 27)
        refine MixL.does (o := ?_) (v := ?_) (w1 := ?_) ?_ ?_ ?_ ?_ ?_
        rotate_left 3
        (focus (first | (simp only [List.getElem?_toArray, List.getElem?_cons_succ, List.getElem?_cons_zero]; with_reducible rfl) | (simp only [List.getElem?_toArray, List.getElem?_cons_zero]; with_reducible rfl)))
        (focus rfl)
        (focus (go_simp; (constructor <;> with_reducible rfl)))
        (focus (exact hI3))
        simp only [Act.put, List.setIfInBounds_toArray, List.set_cons_zero, List.set_cons_succ]
        have K8 := Blk.new w1 27 #[.int .i64 0, .int .i64 0]
        obtain ⟨ga, hga⟩ : ∃ ga, ga = w1.heap.size := ⟨_, rfl⟩
        have gale : wB.heap.size ≤ ga := by rw [hga]; exact hI1.size
        rw [← hga] at K8 ⊢
        refine MixL.call (o := ?_) (f := ?_) (args := ?_) ?_ ?_ ?_ ?_
        rotate_left 3
        (focus (first | (simp only [List.getElem?_toArray, List.getElem?_cons_succ, List.getElem?_cons_zero]; with_reducible rfl) | (simp only [List.getElem?_toArray, List.getElem?_cons_zero]; with_reducible rfl)))
        (focus rfl)
        (focus (go_simp; (constructor <;> with_reducible rfl)))
        with_reducible refine (CS2 _).mono ?_
        rintro e w2 ⟨rfl, b2⟩
        have hI2 := hI3.trans (b2.mono hI3.size)
        refine ⟨_, rfl, hI2, ?_⟩
        simp only [Act.put, List.setIfInBounds_toArray, List.set_cons_zero, List.set_cons_succ]
        have K9 := K8.below b2
        repeat (first
          | (refine MixL.skip (o := ?_) ?_ ?_ ?_; rotate_left; (focus (first | (simp only [List.getElem?_toArray, List.getElem?_cons_succ, List.getElem?_cons_zero]; with_reducible rfl) | (simp only [List.getElem?_toArray, List.getElem?_cons_zero]; with_reducible rfl))); (focus rfl); simp only [Act.put, List.setIfInBounds_toArray, List.set_cons_zero, List.set_cons_succ])
          | (refine MixL.val (o := ?_) (v := ?_) ?_ ?_ ?_ ?_ ?_; rotate_left 2; (focus (first | (simp only [List.getElem?_toArray, List.getElem?_cons_succ, List.getElem?_cons_zero]; with_reducible rfl) | (simp only [List.getElem?_toArray, List.getElem?_cons_zero]; with_reducible rfl))); (focus (intro _ _ h; cases h)); (focus rfl); (focus (intro w' hJ; obtain ⟨s0, s1, s2, s3, q0, q1, q2, sl, ql⟩ := HD.out _ hJ; go_simp <;> with_reducible rfl)); simp only [Act.put, List.setIfInBounds_toArray, List.set_cons_zero, List.set_cons_succ]))
        have hS := below_setRow hI2 gale #[.int .i64 (dotQ s x y).1, .int .i64 (dotQ s x y).2]
        refine MixL.store (o := ?_) (w1 := w2.setRow ga #[.int .i64 (dotQ s x y).1, .int .i64 (dotQ s x y).2]) ?_ ?_ ?_ ?_ ?_
        rotate_left 1
        (focus (first | (simp only [List.getElem?_toArray, List.getElem?_cons_succ, List.getElem?_cons_zero]; with_reducible rfl) | (simp only [List.getElem?_toArray, List.getElem?_cons_zero]; with_reducible rfl)))
        (focus rfl)
        (focus (refine exec_store_row 27 _ _ (by rfl) ga #[.int .i64 (dotQ s x y).1, .int .i64 (dotQ s x y).2] (by rfl) (by rfl) 27 #[.int .i64 0, .int .i64 0] K9 flDtInfo rfl (by simp [Value.oneCell'])))
        (focus (exact hS))
        simp only [Act.put, List.setIfInBounds_toArray, List.set_cons_zero, List.set_cons_succ]
        refine MixL.nil ?_
        go_wp2
        go_meet
        exact ⟨ga, rfl, Lib.hid ⟨blk_row K9 _, hS, gale⟩⟩
    · have hI0 := hI.alloc hI.size (.cells #[.int .i64 0, .int .i64 0] 27)
      refine MixL.does (o := ?_) (v := ?_) (w1 := ?_) ?_ ?_ ?_ ?_ ?_
      rotate_left 3
      (focus (first | (simp only [List.getElem?_toArray, List.getElem?_cons_succ, List.getElem?_cons_zero]; with_reducible rfl) | (simp only [List.getElem?_toArray, List.getElem?_cons_zero]; with_reducible rfl)))
      (focus rfl)
      (focus (go_simp; (constructor <;> with_reducible rfl)))
      (focus (exact hI0))
      simp only [Act.put, List.setIfInBounds_toArray, List.set_cons_zero, List.set_cons_succ]
      have K8 := Blk.new wd 27 #[.int .i64 0, .int .i64 0]
      obtain ⟨ga, hga⟩ : ∃ ga, ga = wd.heap.size := ⟨_, rfl⟩
      have gale : wB.heap.size ≤ ga := by rw [hga]; exact hI.size
      rw [← hga] at K8 ⊢
      refine MixL.call (o := ?_) (f := ?_) (args := ?_) ?_ ?_ ?_ ?_
      rotate_left 3
      (focus (first | (simp only [List.getElem?_toArray, List.getElem?_cons_succ, List.getElem?_cons_zero]; with_reducible rfl) | (simp only [List.getElem?_toArray, List.getElem?_cons_zero]; with_reducible rfl)))
      (focus rfl)
      (focus (go_simp; (constructor <;> with_reducible rfl)))
      with_reducible refine (CS1 _).mono ?_
      rintro e w1 ⟨rfl, b1⟩
      have hI1 := hI0.trans (b1.mono hI0.size)
      refine ⟨_, rfl, hI1, ?_⟩
      simp only [Act.put, List.setIfInBounds_toArray, List.set_cons_zero, List.set_cons_succ]
      repeat (first
        | (refine MixL.skip (o := ?_) ?_ ?_ ?_; rotate_left; (focus (first | (simp only [List.getElem?_toArray, List.getElem?_cons_succ, List.getElem?_cons_zero]; with_reducible rfl) | (simp only [List.getElem?_toArray, List.getElem?_cons_zero]; with_reducible rfl))); (focus rfl); simp only [Act.put, List.setIfInBounds_toArray, List.set_cons_zero, List.set_cons_succ])
        | (refine MixL.val (o := ?_) (v := ?_) ?_ ?_ ?_ ?_ ?_; rotate_left 2; (focus (first | (simp only [List.getElem?_toArray, List.getElem?_cons_succ, List.getElem?_cons_zero]; with_reducible rfl) | (simp only [List.getElem?_toArray, List.getElem?_cons_zero]; with_reducible rfl))); (focus (intro _ _ h; cases h)); (focus rfl); (focus (intro w' hJ; obtain ⟨s0, s1, s2, s3, q0, q1, q2, sl, ql⟩ := HD.out _ hJ; go_simp <;> with_reducible rfl)); simp only [Act.put, List.setIfInBounds_toArray, List.set_cons_zero, List.set_cons_succ]))
      refine MixL.call (o := ?_) (f := ?_) (args := ?_) ?_ ?_ ?_ ?_
      rotate_left 3
      (focus (first | (simp only [List.getElem?_toArray, List.getElem?_cons_succ, List.getElem?_cons_zero]; with_reducible rfl) | (simp only [List.getElem?_toArray, List.getElem?_cons_zero]; with_reducible rfl)))
      (focus rfl)
      (focus (go_simp; (constructor <;> with_reducible rfl)))
      with_reducible refine (CS2 _).mono ?_
      rintro e w2 ⟨rfl, b2⟩
      have hI2 := hI1.trans (b2.mono hI1.size)
      refine ⟨_, rfl, hI2, ?_⟩
      simp only [Act.put, List.setIfInBounds_toArray, List.set_cons_zero, List.set_cons_succ]
      have K9 := (K8.below b1).below b2
      repeat (first
        | (refine MixL.skip (o := ?_) ?_ ?_ ?_; rotate_left; (focus (first | (simp only [List.getElem?_toArray, List.getElem?_cons_succ, List.getElem?_cons_zero]; with_reducible rfl) | (simp only [List.getElem?_toArray, List.getElem?_cons_zero]; with_reducible rfl))); (focus rfl); simp only [Act.put, List.setIfInBounds_toArray, List.set_cons_zero, List.set_cons_succ])
        | (refine MixL.val (o := ?_) (v := ?_) ?_ ?_ ?_ ?_ ?_; rotate_left 2; (focus (first | (simp only [List.getElem?_toArray, List.getElem?_cons_succ, List.getElem?_cons_zero]; with_reducible rfl) | (simp only [List.getElem?_toArray, List.getElem?_cons_zero]; with_reducible rfl))); (focus (intro _ _ h; cases h)); (focus rfl); (focus (intro w' hJ; obtain ⟨s0, s1, s2, s3, q0, q1, q2, sl, ql⟩ := HD.out _ hJ; go_simp <;> with_reducible rfl)); simp only [Act.put, List.setIfInBounds_toArray, List.set_cons_zero, List.set_cons_succ]))
      have hS := below_setRow hI2 gale #[.int .i64 (dotQ s x y).1, .int .i64 (dotQ s x y).2]
      refine MixL.store (o := ?_) (w1 := w2.setRow ga #[.int .i64 (dotQ s x y).1, .int .i64 (dotQ s x y).2]) ?_ ?_ ?_ ?_ ?_
      rotate_left 1
      (focus (first | (simp only [List.getElem?_toArray, List.getElem?_cons_succ, List.getElem?_cons_zero]; with_reducible rfl) | (simp only [List.getElem?_toArray, List.getElem?_cons_zero]; with_reducible rfl)))
      (focus rfl)
      (focus (refine exec_store_row 27 _ _ (by rfl) ga #[.int .i64 (dotQ s x y).1, .int .i64 (dotQ s x y).2] (by rfl) (by rfl) 27 #[.int .i64 0, .int .i64 0] K9 flDtInfo rfl (by simp [Value.oneCell'])))
      (focus (exact hS))
      simp only [Act.put, List.setIfInBounds_toArray, List.set_cons_zero, List.set_cons_succ]
      refine MixL.nil ?_
      go_wp2
      go_meet
      exact ⟨ga, rfl, Lib.hid ⟨blk_row K9 _, hS, gale⟩⟩
  case rest =>
    obtain ⟨ga, rfl, HG⟩ := hcut
    have KG := HG.out.1
    have j0 := KG.cell 0; have j1 := KG.cell 1; have jl := KG.lt; simp only [List.getElem?_toArray, List.getElem?_cons_succ, List.getElem?_cons_zero] at j0 j1
    have H6 := Lib.hid (H6.out.below HG.out.2.1)
    have HB6 := Lib.hid (HB6.out.trans (HG.out.2.1.mono HB6.out.size))
    clear KG ea eai eb ebi eng engi CS1 CS2
    cases hl : ltF (dotQ s x y)
    · have HR := Lib.hid (show (Ending.returned (.tuple #[.agg #[.int .i64 0, .int .i64 0], .int .i64 10])) = Ending.returned (.tuple #[.agg #[.int .i64 (dotD s x y).1, .int .i64 (dotD s x y).2], .int .i64 (dotE s x y)]) by
        have he : dotE s x y = 10 := by rw [HLT.out, hl]; rfl
        have hd : dotD s x y = (0, 0) := by unfold dotD; rw [he]; rfl
        rw [hd, he])
      rw [hl] at CD
      clear hl
      go_wp2_with (first
        | (go_at_call 31; refine (CD _).mono ?_; rintro e w7 ⟨rfl, b7⟩; have H7 := Lib.hid (H6.out.below b7); have HB7 := Lib.hid (HB6.out.trans (b7.mono HB6.out.size)); have KK := HG.out.1.below b7; have j0 := KK.cell 0; have j1 := KK.cell 1; have jl := KK.lt; simp only [List.getElem?_toArray, List.getElem?_cons_succ, List.getElem?_cons_zero] at j0 j1)
        | (refine wpList_store_row rfl 27 (.tmp 4) (.tmp 41) (by with_reducible rfl) (w.heap.size + 1 + 1) #[.int .i64 0, .int .i64 0] (by rfl) (by rfl) 27 #[.int .i64 0, .int .i64 0] (by exact H7.out) flDtInfo rfl (by simp [Value.oneCell']) ?_))
      have K5 := blk_row H7.out #[.int .i64 0, .int .i64 0]
      refine bodyPost_ret (results_row_tmp Try.results8 _ _ (w.heap.size + 1 + 1) 27 #[.int .i64 0, .int .i64 0] (0, 0) _ (.int .i64 10) (by rfl) (by rfl) (show Blk _ _ _ _ from K5) Try.underlying27 rfl (by kernel_rfl)) rfl ⟨HR.out, ?_⟩
      exact HB7.out.trans ((only_row (Only.refl _ _) (.inl (by simp)) _ : Only _ _ [w.heap.size + 1 + 1]).to_below HB7.out.size (by simp; omega))
    · have HR := Lib.hid (show (Ending.returned (.tuple #[.agg #[.int .i64 (dotQ s x y).1, .int .i64 (dotQ s x y).2], .int .i64 0])) = Ending.returned (.tuple #[.agg #[.int .i64 (dotD s x y).1, .int .i64 (dotD s x y).2], .int .i64 (dotE s x y)]) by
        have he : dotE s x y = 0 := by rw [HLT.out, hl]; rfl
        have hd : dotD s x y = dotQ s x y := by unfold dotD; rw [he]; rfl
        rw [hd, he])
      rw [hl] at CD
      clear hl
      go_wp2_with (first
        | (go_at_call 31; refine (CD _).mono ?_; rintro e w7 ⟨rfl, b7⟩; have H7 := Lib.hid (H6.out.below b7); have HB7 := Lib.hid (HB6.out.trans (b7.mono HB6.out.size)); have KK := HG.out.1.below b7; have j0 := KK.cell 0; have j1 := KK.cell 1; have jl := KK.lt; simp only [List.getElem?_toArray, List.getElem?_cons_succ, List.getElem?_cons_zero] at j0 j1)
        | (refine wpList_store_row rfl 27 (.tmp 4) (.tmp 42) (by with_reducible rfl) (w.heap.size + 1 + 1) #[.int .i64 (dotQ s x y).1, .int .i64 (dotQ s x y).2] (by rfl) (by rfl) 27 #[.int .i64 0, .int .i64 0] (by exact H7.out) flDtInfo rfl (by simp [Value.oneCell']) ?_))
      have K5 := blk_row H7.out #[.int .i64 (dotQ s x y).1, .int .i64 (dotQ s x y).2]
      refine bodyPost_ret (results_row_tmp Try.results8 _ _ (w.heap.size + 1 + 1) 27 #[.int .i64 (dotQ s x y).1, .int .i64 (dotQ s x y).2] (0, 0) _ (.int .i64 0) (by rfl) (by rfl) (show Blk _ _ _ _ from K5) Try.underlying27 rfl (by kernel_rfl)) rfl ⟨HR.out, ?_⟩
      exact HB7.out.trans ((only_row (Only.refl _ _) (.inl (by simp)) _ : Only _ _ [w.heap.size + 1 + 1]).to_below HB7.out.size (by simp; omega))
theorem fdot_any (s : Sc) (x y z : Int) (w : World) : Calls Try.prog 8 #[.agg #[.int .i64 s.u, .int .i64 s.p, .int .i64 s.fx, .int .i64 s.fy], .agg #[.int .i64 x, .int .i64 y, .int .i64 z]] w fun e w' => e = .returned (.tuple #[.agg #[.int .i64 (dotD s x y).1, .int .i64 (dotD s x y).2], .int .i64 (dotE s x y)]) ∧ Below w.heap.size w w' := by
  cases h : mscB s
  · exact fdot_noscale s x y z w h
  · cases hm : (mayB x && mayB y)
    · exact fdot_over s x y z w h hm
    · exact fdot_ok s x y z w h hm
end Go.Proofs.Ytlacjifnniahhaa

namespace Go.Proofs.Ytlacjifnniahhaa
open Go Go.RowKit
set_option linter.unusedVariables false
set_option linter.unusedSimpArgs false

def advE (s : Sc) (n : Int) : Int := if mscB s then (if wtZ (-65536) 65536 n then 0 else 10) else 210
def advD (s : Sc) (n : Int) : Int := if advE s n = 0 then scZ s n 1 else 0
set_option maxRecDepth 100000 in
set_option maxHeartbeats 1000000 in
theorem fadv_any (s : Sc) (n : Int) (w : World) : Calls Try.prog 9 #[.agg #[.int .i64 s.u, .int .i64 s.p, .int .i64 s.fx, .int .i64 s.fy], .int .i64 n] w fun e w' => e = .returned (.tuple #[.int .i64 (advD s n), .int .i64 (advE s n)]) ∧ Below w.heap.size w w' := by
  have CM := fun W => fmsc_any s W
  have B1 := below_a1 w (.cells #[.int .i64 s.u, .int .i64 s.p, .int .i64 s.fx, .int .i64 s.fy] 23)
  cases h : mscB s
  · have HR := Lib.hid (show advE s n = 210 ∧ advD s n = 0 by unfold advD advE; rw [h]; exact ⟨rfl, rfl⟩)
    rw [h] at CM
    clear h
    go_enter Try.func9, Try.ntmps9
    go_wp2_with (go_at_call 28; refine (CM _).mono ?_; rintro e w1 ⟨rfl, b1⟩)
    go_ret2
    exact ⟨by rw [HR.out.1, HR.out.2]; rfl, B1.trans (b1.mono B1.size)⟩
  rw [h] at CM
  cases hn : wtZ (-65536) 65536 n
  · have HR := Lib.hid (show advE s n = 10 ∧ advD s n = 0 by unfold advD advE; rw [h, hn]; exact ⟨rfl, rfl⟩)
    have hn2 : n < -65536 ∨ 65536 < n := by unfold wtZ at hn; simp at hn; omega
    clear h hn
    rcases hn2 with hn2 | hn2
    · go_enter Try.func9, Try.ntmps9
      go_wp2_with (go_at_call 28; refine (CM _).mono ?_; rintro e w1 ⟨rfl, b1⟩)
      go_ret2
      exact ⟨by rw [HR.out.1, HR.out.2]; rfl, B1.trans (b1.mono B1.size)⟩
    · have hn3 : decide (n < -65536) = false := by simp; omega
      go_enter Try.func9, Try.ntmps9
      go_wp2_with (go_at_call 28; refine (CM _).mono ?_; rintro e w1 ⟨rfl, b1⟩)
      go_ret2
      exact ⟨by rw [HR.out.1, HR.out.2]; rfl, B1.trans (b1.mono B1.size)⟩
  · have hn2 := wtZ_in hn
    have HR := Lib.hid (show advE s n = 0 ∧ advD s n = scZ s n 1 by unfold advD advE; rw [h, hn]; exact ⟨rfl, rfl⟩)
    have CS := fun W => fscaled_any s n 1 h (by omega) (.inr rfl) W
    have hn3 : decide (n < -65536) = false := by simp; omega
    have hn4 : decide (65536 < n) = false := by simp; omega
    have K := Blk.new w 23 #[.int .i64 s.u, .int .i64 s.p, .int .i64 s.fx, .int .i64 s.fy]
    obtain ⟨wA, hwA⟩ : ∃ wA, wA = w.alloc (.cells #[.int .i64 s.u, .int .i64 s.p, .int .i64 s.fx, .int .i64 s.fy] 23) := ⟨_, rfl⟩
    rw [← hwA] at K B1
    have HA := Lib.hid hwA
    have HK := Lib.hid K
    have HB1 := Lib.hid B1
    clear h hn hn2 hwA B1
    have s0 := K.cell 0; have s1 := K.cell 1; have s2 := K.cell 2; have s3 := K.cell 3; have sl := K.lt; simp only [List.getElem?_toArray, List.getElem?_cons_succ, List.getElem?_cons_zero] at s0 s1 s2 s3
    go_enter Try.func9, Try.ntmps9
    go_upto_region 1 with fail
    rw [← HA.out]
    go_upto_region 3 with (go_at_call 28; refine (CM _).mono ?_; rintro e w1 ⟨rfl, b1⟩)
    have K1 := HK.out.below b1
    clear s0 s1 s2 s3 sl
    have s0 := K1.cell 0; have s1 := K1.cell 1; have s2 := K1.cell 2; have s3 := K1.cell 3; have sl := K1.lt; simp only [List.getElem?_toArray, List.getElem?_cons_succ, List.getElem?_cons_zero] at s0 s1 s2 s3
    go_wp2_with (go_at_call 30; refine (CS _).mono ?_; rintro e w2 ⟨rfl, b2⟩)
    go_ret2
    exact ⟨by rw [HR.out.1, HR.out.2]; rfl, (HB1.out.trans (b1.mono HB1.out.size)).trans (b2.mono (HB1.out.trans (b1.mono HB1.out.size)).size)⟩
set_option maxRecDepth 100000 in
set_option maxHeartbeats 2000000 in
theorem rmsc_any (s : Sc) (w : World) : Calls Try.prog 11 #[.agg #[.int .i64 s.u, .int .i64 s.p, .int .i64 s.fx, .int .i64 s.fy]] w fun e w' => e = .returned (.bool (mscB s)) ∧ Below w.heap.size w w' := by
  have HR := Lib.hid (show mscB s = (decide (16 ≤ s.u) && decide (s.u ≤ 16384) && decide (1 ≤ s.p) && decide (s.p ≤ 2048) && decide (0 ≤ s.fx) && decide (s.fx < 64) && decide (0 ≤ s.fy) && decide (s.fy < 64)) by
    unfold mscB wtZ
    rw [Bool.eq_iff_iff]
    simp
    omega)
  go_enter Try.func11, Try.ntmps11
  go_wp2
  all_goals
    go_ret
    refine ⟨?_, below_a1 _ _⟩
    rw [HR.out]
    clear HR
    simp_all
    try first
      | omega
      | (intros; omega)
theorem rfits_any (x : Int) (w : World) : Calls Try.prog 34 #[.int .i64 x] w fun e w' => e = .returned (.bool (fitZ x)) ∧ w' = w := by
  by_cases h1 : -1048576 ≤ x <;> by_cases h2 : x ≤ 1048576
  all_goals
    go_enter Try.func34, Try.ntmps34
    go_wp2
    go_ret
    simp [fitZ, h1, h2]
set_option maxRecDepth 100000 in
set_option maxHeartbeats 1000000 in
theorem rdot_over (s : Sc) (x y z : Int) (w : World) (h : mscB s = true) (hm : (mayB x && mayB y) = false) : Calls Try.prog 12 #[.agg #[.int .i64 s.u, .int .i64 s.p, .int .i64 s.fx, .int .i64 s.fy], .agg #[.int .i64 x, .int .i64 y, .int .i64 z]] w fun e w' => e = .returned (.tuple #[.agg #[.int .i64 (dotD s x y).1, .int .i64 (dotD s x y).2], .int .i64 (dotE s x y)]) ∧ Below w.heap.size w w' := by
  have HR := Lib.hid (show Ending.returned (.tuple #[.agg #[.int .i64 (dotD s x y).1, .int .i64 (dotD s x y).2], .int .i64 (dotE s x y)]) = .returned (.tuple #[.agg #[.int .i64 0, .int .i64 0], .int .i64 10]) by
    have he : dotE s x y = 10 := by unfold dotE; rw [h, hm]; rfl
    have hd : dotD s x y = (0, 0) := by unfold dotD; rw [he]; rfl
    rw [he, hd])
  have CX := fun W => may_ref x W
  have CY := fun W => may_ref y W
  clear h
  cases hx : mayB x <;> cases hy : mayB y <;> rw [hx, hy] at hm
  all_goals first
    | (cases hm; done)
    | (
      rw [hx] at CX
      rw [hy] at CY
      clear hx hy hm
      have B0 := below_a3 w (.cells #[.int .i64 s.u, .int .i64 s.p, .int .i64 s.fx, .int .i64 s.fy] 23) (.cells #[.int .i64 x, .int .i64 y, .int .i64 z] 25) (.cells #[.int .i64 0, .int .i64 0] 27)
      have K2 := (Blk.new w 23 #[.int .i64 s.u, .int .i64 s.p, .int .i64 s.fx, .int .i64 s.fy]).below (below_a2 _ (.cells #[.int .i64 x, .int .i64 y, .int .i64 z] 25) (.cells #[.int .i64 0, .int .i64 0] 27))
      have K3 := (Blk.new (w.alloc (.cells #[.int .i64 s.u, .int .i64 s.p, .int .i64 s.fx, .int .i64 s.fy] 23)) 25 #[.int .i64 x, .int .i64 y, .int .i64 z]).below (below_a1 _ (.cells #[.int .i64 0, .int .i64 0] 27))
      have K4 := Blk.new ((w.alloc (.cells #[.int .i64 s.u, .int .i64 s.p, .int .i64 s.fx, .int .i64 s.fy] 23)).alloc (.cells #[.int .i64 x, .int .i64 y, .int .i64 z] 25)) 27 #[.int .i64 0, .int .i64 0]
      simp only [World.size_alloc] at K3 K4
      obtain ⟨wA, hwA⟩ : ∃ wA, wA = ((w.alloc (.cells #[.int .i64 s.u, .int .i64 s.p, .int .i64 s.fx, .int .i64 s.fy] 23)).alloc (.cells #[.int .i64 x, .int .i64 y, .int .i64 z] 25)).alloc (.cells #[.int .i64 0, .int .i64 0] 27) := ⟨_, rfl⟩
      rw [← hwA] at B0 K2 K3 K4
      have HA := Lib.hid hwA
      have H2 := Lib.hid K2
      have H3 := Lib.hid K3
      have H4 := Lib.hid K4
      have HB0 := Lib.hid B0
      clear hwA
      go_enter Try.func12, Try.ntmps12
      go_upto_region 1 with fail
      rw [← HA.out]
      have s0 := K2.cell 0; have s1 := K2.cell 1; have s2 := K2.cell 2; have s3 := K2.cell 3; have sl := K2.lt; simp only [List.getElem?_toArray, List.getElem?_cons_succ, List.getElem?_cons_zero] at s0 s1 s2 s3
      have q0 := K3.cell 0; have q1 := K3.cell 1; have q2 := K3.cell 2; have ql := K3.lt; simp only [List.getElem?_toArray, List.getElem?_cons_succ, List.getElem?_cons_zero] at q0 q1 q2
      have H6 := H4
      have HB6 := HB0
      go_wp2_with (first
        | (go_at_call 33; with_reducible first | (refine (CX _).mono ?_; rintro e w2 ⟨rfl, rfl⟩) | (refine (CY _).mono ?_; rintro e w2 ⟨rfl, rfl⟩))
        | (refine wpList_store_row rfl 27 (.tmp 4) (.tmp 18) (by with_reducible rfl) (w.heap.size + 1 + 1) #[.int .i64 0, .int .i64 0] (by rfl) (by rfl) 27 #[.int .i64 0, .int .i64 0] (by exact H6.out) flDtInfo rfl (by simp [Value.oneCell']) ?_))
      have K5 := blk_row H6.out #[.int .i64 0, .int .i64 0]
      refine bodyPost_ret (results_row_tmp Try.results12 _ _ (w.heap.size + 1 + 1) 27 #[.int .i64 0, .int .i64 0] (0, 0) _ (.int .i64 10) (by rfl) (by rfl) (show Blk _ _ _ _ from K5) Try.underlying27 rfl (by kernel_rfl)) rfl ⟨HR.out.symm, ?_⟩
      exact HB6.out.trans ((only_row (Only.refl _ _) (.inl (by simp)) _ : Only _ _ [w.heap.size + 1 + 1]).to_below HB6.out.size (by simp; omega)))
set_option maxRecDepth 100000 in
set_option maxHeartbeats 4000000 in
theorem rdot_ok (s : Sc) (x y z : Int) (w : World) (h : mscB s = true) (hm : (mayB x && mayB y) = true) : Calls Try.prog 12 #[.agg #[.int .i64 s.u, .int .i64 s.p, .int .i64 s.fx, .int .i64 s.fy], .agg #[.int .i64 x, .int .i64 y, .int .i64 z]] w fun e w' => e = .returned (.tuple #[.agg #[.int .i64 (dotD s x y).1, .int .i64 (dotD s x y).2], .int .i64 (dotE s x y)]) ∧ Below w.heap.size w w' := by
  have CX := fun W => may_ref x W
  have CY := fun W => may_ref y W
  rw [Bool.and_eq_true] at hm
  have ax := And.intro (mayB_lo hm.1) (mayB_hi hm.1)
  have ay := And.intro (mayB_lo hm.2) (mayB_hi hm.2)
  have lx := scZ_in h (x := x) (by omega)
  have ly := scZ_in h (x := -y) (by omega)
  have hs := mscB_in h
  have lx2 := scZ_lim h (x := x) (by omega)
  have ly2 := scZ_lim h (x := -y) (by omega)
  have hub : 1 ≤ 65536 * s.u ∧ 65536 * s.u ≤ 1073741824 := by omega
  have CS1 := fun W => rnear_ok (x * s.p * 64) (65536 * s.u) W hub.1 (by omega) (by omega) (by omega)
  have CS2 := fun W => rnear_ok (-y * s.p * 64) (65536 * s.u) W hub.1 (by omega) (by omega) (by omega)
  rw [show near (x * s.p * 64) (65536 * s.u) = scZ s x 65536 from rfl] at CS1
  rw [show near (-y * s.p * 64) (65536 * s.u) = scZ s (-y) 65536 from rfl] at CS2
  have g1 : IntKind.i64.wrap (x * s.p) = x * s.p := wrap_ini (by omega)
  have g2 : IntKind.i64.wrap (x * s.p * 64) = x * s.p * 64 := wrap_ini (by omega)
  have g3 : IntKind.i64.wrap (65536 * s.u) = 65536 * s.u := wrap_ini (by omega)
  have g4 : IntKind.i64.wrap (-y * s.p) = -y * s.p := wrap_ini (by omega)
  have g5 : IntKind.i64.wrap (-y * s.p * 64) = -y * s.p * 64 := wrap_ini (by omega)
  have engi : IntKind.i64.wrap (-y) = -y := wrap_ini (by omega)
  have eai : IntKind.i64.wrap (scZ s x 65536 + s.fx) = (dotQ s x y).1 := wrap_ini (by omega)
  have ebi : IntKind.i64.wrap (scZ s (-y) 65536 + s.fy) = (dotQ s x y).2 := wrap_ini (by omega)
  have HLT := Lib.hid (show dotE s x y = if ltF (dotQ s x y) then 0 else 10 by unfold dotE; rw [h, hm.1, hm.2]; rfl)
  rw [hm.1] at CX
  rw [hm.2] at CY
  obtain ⟨qx, hqx⟩ : ∃ qx, qx = (dotQ s x y).1 := ⟨_, rfl⟩
  obtain ⟨qy, hqy⟩ : ∃ qy, qy = (dotQ s x y).2 := ⟨_, rfl⟩
  rw [← hqx] at eai
  rw [← hqy] at ebi
  have HQ := Lib.hid (show dotQ s x y = (qx, qy) by rw [hqx, hqy])
  have CF1 := fun W => rfits_any qx W
  have CF2 := fun W => rfits_any qy W
  clear h hm ax ay lx ly hs lx2 ly2 hub hqx hqy
  have B0 := below_a3 w (.cells #[.int .i64 s.u, .int .i64 s.p, .int .i64 s.fx, .int .i64 s.fy] 23) (.cells #[.int .i64 x, .int .i64 y, .int .i64 z] 25) (.cells #[.int .i64 0, .int .i64 0] 27)
  have K2 := (Blk.new w 23 #[.int .i64 s.u, .int .i64 s.p, .int .i64 s.fx, .int .i64 s.fy]).below (below_a2 _ (.cells #[.int .i64 x, .int .i64 y, .int .i64 z] 25) (.cells #[.int .i64 0, .int .i64 0] 27))
  have K3 := (Blk.new (w.alloc (.cells #[.int .i64 s.u, .int .i64 s.p, .int .i64 s.fx, .int .i64 s.fy] 23)) 25 #[.int .i64 x, .int .i64 y, .int .i64 z]).below (below_a1 _ (.cells #[.int .i64 0, .int .i64 0] 27))
  have K4 := Blk.new ((w.alloc (.cells #[.int .i64 s.u, .int .i64 s.p, .int .i64 s.fx, .int .i64 s.fy] 23)).alloc (.cells #[.int .i64 x, .int .i64 y, .int .i64 z] 25)) 27 #[.int .i64 0, .int .i64 0]
  simp only [World.size_alloc] at K3 K4
  obtain ⟨wA, hwA⟩ : ∃ wA, wA = ((w.alloc (.cells #[.int .i64 s.u, .int .i64 s.p, .int .i64 s.fx, .int .i64 s.fy] 23)).alloc (.cells #[.int .i64 x, .int .i64 y, .int .i64 z] 25)).alloc (.cells #[.int .i64 0, .int .i64 0] 27) := ⟨_, rfl⟩
  rw [← hwA] at B0 K2 K3 K4
  have HA := Lib.hid hwA
  have H2 := Lib.hid K2
  have H3 := Lib.hid K3
  have H4 := Lib.hid K4
  have HB0 := Lib.hid B0
  clear hwA
  go_enter Try.func12, Try.ntmps12
  go_upto_region 1 with fail
  rw [← HA.out]
  have s0 := K2.cell 0; have s1 := K2.cell 1; have s2 := K2.cell 2; have s3 := K2.cell 3; have sl := K2.lt; simp only [List.getElem?_toArray, List.getElem?_cons_succ, List.getElem?_cons_zero] at s0 s1 s2 s3
  have q0 := K3.cell 0; have q1 := K3.cell 1; have q2 := K3.cell 2; have ql := K3.lt; simp only [List.getElem?_toArray, List.getElem?_cons_succ, List.getElem?_cons_zero] at q0 q1 q2
  go_upto_region 3 with (go_at_call 33; with_reducible first | (refine (CX _).mono ?_; rintro e w2 ⟨rfl, rfl⟩) | (refine (CY _).mono ?_; rintro e w2 ⟨rfl, rfl⟩))
  have HD := Lib.hid (fun (V : World) (hV : Below wA.heap.size wA V) => And.intro ((hV.cell (p := ⟨w.heap.size, 0, none⟩) sl).trans s0) (And.intro ((hV.cell (p := ⟨w.heap.size, 1, none⟩) sl).trans s1) (And.intro ((hV.cell (p := ⟨w.heap.size, 2, none⟩) sl).trans s2) (And.intro ((hV.cell (p := ⟨w.heap.size, 3, none⟩) sl).trans s3) (And.intro ((hV.cell (p := ⟨w.heap.size + 1, 0, none⟩) ql).trans q0) (And.intro ((hV.cell (p := ⟨w.heap.size + 1, 1, none⟩) ql).trans q1) (And.intro ((hV.cell (p := ⟨w.heap.size + 1, 2, none⟩) ql).trans q2) (And.intro (Nat.lt_of_lt_of_le sl hV.size) (Nat.lt_of_lt_of_le ql hV.size)))))))))
  clear s0 s1 s2 s3 sl q0 q1 q2 ql K2 K3 K4 B0
  have hI : Below wA.heap.size wA wA.drew := (Below.refl _ _).drew
  refine wp_region_chain (fun V => Below wA.heap.size wA V) [(0, false), (1, false), (2, false), (3, false), (4, false), (5, false), (6, false), (7, false), (8, false), (10, false), (11, false), (9, true), (12, false), (13, false)] (by kernel_rfl) (by kernel_rfl) hI ?_
  repeat (first
    | (refine ChainL.skip (o := ?_) ?_ ?_ ?_; rotate_left; (focus (first | (simp only [List.getElem?_toArray, List.getElem?_cons_succ, List.getElem?_cons_zero]; with_reducible rfl) | (simp only [List.getElem?_toArray, List.getElem?_cons_zero]; with_reducible rfl))); (focus rfl); simp only [Act.put, List.setIfInBounds_toArray, List.set_cons_zero, List.set_cons_succ])
    | (refine ChainL.val (o := ?_) (v := ?_) ?_ ?_ ?_ ?_ ?_; rotate_left 2; (focus (first | (simp only [List.getElem?_toArray, List.getElem?_cons_succ, List.getElem?_cons_zero]; with_reducible rfl) | (simp only [List.getElem?_toArray, List.getElem?_cons_zero]; with_reducible rfl))); (focus (intro _ _ h; cases h)); (focus rfl); (focus (intro w' hI; obtain ⟨s0, s1, s2, s3, q0, q1, q2, sl, ql⟩ := HD.out _ hI; go_simp <;> with_reducible rfl)); simp only [Act.put, List.setIfInBounds_toArray, List.set_cons_zero, List.set_cons_succ]))
  refine ChainL.call (o := ?_) (f := ?_) (args := ?_) ?_ ?_ ?_ ?_
  rotate_left 3
  (focus (first | (simp only [List.getElem?_toArray, List.getElem?_cons_succ, List.getElem?_cons_zero]; with_reducible rfl) | (simp only [List.getElem?_toArray, List.getElem?_cons_zero]; with_reducible rfl)))
  (focus rfl)
  (focus (go_simp; (constructor <;> with_reducible rfl)))
  with_reducible refine (CS1 _).mono ?_
  rintro e w3 ⟨rfl, rfl⟩
  refine ⟨_, rfl, hI, ?_⟩
  simp only [Act.put, List.setIfInBounds_toArray, List.set_cons_zero, List.set_cons_succ]
  repeat (first
    | (refine ChainL.skip (o := ?_) ?_ ?_ ?_; rotate_left; (focus (first | (simp only [List.getElem?_toArray, List.getElem?_cons_succ, List.getElem?_cons_zero]; with_reducible rfl) | (simp only [List.getElem?_toArray, List.getElem?_cons_zero]; with_reducible rfl))); (focus rfl); simp only [Act.put, List.setIfInBounds_toArray, List.set_cons_zero, List.set_cons_succ])
    | (refine ChainL.val (o := ?_) (v := ?_) ?_ ?_ ?_ ?_ ?_; rotate_left 2; (focus (first | (simp only [List.getElem?_toArray, List.getElem?_cons_succ, List.getElem?_cons_zero]; with_reducible rfl) | (simp only [List.getElem?_toArray, List.getElem?_cons_zero]; with_reducible rfl))); (focus (intro _ _ h; cases h)); (focus rfl); (focus (intro w' hI; obtain ⟨s0, s1, s2, s3, q0, q1, q2, sl, ql⟩ := HD.out _ hI; go_simp <;> with_reducible rfl)); simp only [Act.put, List.setIfInBounds_toArray, List.set_cons_zero, List.set_cons_succ]))
  refine ChainL.nil ?_
  go_upto_region 4 with fail
  have hI2 : Below wA.heap.size wA wA.drew.drew := hI.drew
  refine wp_region_chain (fun V => Below wA.heap.size wA V) [(0, false), (1, false), (2, false), (3, false), (4, false), (5, false), (6, false), (7, false), (8, false), (9, false), (11, false), (12, false), (10, true), (13, false), (14, false)] (by kernel_rfl) (by kernel_rfl) hI2 ?_
  repeat (first
    | (refine ChainL.skip (o := ?_) ?_ ?_ ?_; rotate_left; (focus (first | (simp only [List.getElem?_toArray, List.getElem?_cons_succ, List.getElem?_cons_zero]; with_reducible rfl) | (simp only [List.getElem?_toArray, List.getElem?_cons_zero]; with_reducible rfl))); (focus rfl); simp only [Act.put, List.setIfInBounds_toArray, List.set_cons_zero, List.set_cons_succ])
    | (refine ChainL.val (o := ?_) (v := ?_) ?_ ?_ ?_ ?_ ?_; rotate_left 2; (focus (first | (simp only [List.getElem?_toArray, List.getElem?_cons_succ, List.getElem?_cons_zero]; with_reducible rfl) | (simp only [List.getElem?_toArray, List.getElem?_cons_zero]; with_reducible rfl))); (focus (intro _ _ h; cases h)); (focus rfl); (focus (intro w' hI; obtain ⟨s0, s1, s2, s3, q0, q1, q2, sl, ql⟩ := HD.out _ hI; go_simp <;> with_reducible rfl)); simp only [Act.put, List.setIfInBounds_toArray, List.set_cons_zero, List.set_cons_succ]))
  refine ChainL.call (o := ?_) (f := ?_) (args := ?_) ?_ ?_ ?_ ?_
  rotate_left 3
  (focus (first | (simp only [List.getElem?_toArray, List.getElem?_cons_succ, List.getElem?_cons_zero]; with_reducible rfl) | (simp only [List.getElem?_toArray, List.getElem?_cons_zero]; with_reducible rfl)))
  (focus rfl)
  (focus (go_simp; (constructor <;> with_reducible rfl)))
  with_reducible refine (CS2 _).mono ?_
  rintro e w3 ⟨rfl, rfl⟩
  refine ⟨_, rfl, hI2, ?_⟩
  simp only [Act.put, List.setIfInBounds_toArray, List.set_cons_zero, List.set_cons_succ]
  repeat (first
    | (refine ChainL.skip (o := ?_) ?_ ?_ ?_; rotate_left; (focus (first | (simp only [List.getElem?_toArray, List.getElem?_cons_succ, List.getElem?_cons_zero]; with_reducible rfl) | (simp only [List.getElem?_toArray, List.getElem?_cons_zero]; with_reducible rfl))); (focus rfl); simp only [Act.put, List.setIfInBounds_toArray, List.set_cons_zero, List.set_cons_succ])
    | (refine ChainL.val (o := ?_) (v := ?_) ?_ ?_ ?_ ?_ ?_; rotate_left 2; (focus (first | (simp only [List.getElem?_toArray, List.getElem?_cons_succ, List.getElem?_cons_zero]; with_reducible rfl) | (simp only [List.getElem?_toArray, List.getElem?_cons_zero]; with_reducible rfl))); (focus (intro _ _ h; cases h)); (focus rfl); (focus (intro w' hI; obtain ⟨s0, s1, s2, s3, q0, q1, q2, sl, ql⟩ := HD.out _ hI; go_simp <;> with_reducible rfl)); simp only [Act.put, List.setIfInBounds_toArray, List.set_cons_zero, List.set_cons_succ]))
  refine ChainL.nil ?_
  have HB6 := Lib.hid (HB0.out.trans (hI2.mono HB0.out.size))
  have H6 := Lib.hid (H4.out.below hI2)
  clear hI hI2 g1 g2 g3 g4 g5 engi eai ebi CS1 CS2 CX CY
  cases hl1 : fitZ qx <;> cases hl2 : fitZ qy
  all_goals
    have HR := Lib.hid (show Ending.returned (.tuple #[.agg #[.int .i64 (dotD s x y).1, .int .i64 (dotD s x y).2], .int .i64 (dotE s x y)]) = .returned (.tuple #[.agg #[.int .i64 (if fitZ qx && fitZ qy then qx else 0), .int .i64 (if fitZ qx && fitZ qy then qy else 0)], .int .i64 (if fitZ qx && fitZ qy then 0 else 10)]) by
      have he : dotE s x y = if fitZ qx && fitZ qy then 0 else 10 := by rw [HLT.out, HQ.out]; rfl
      have hd : dotD s x y = if fitZ qx && fitZ qy then (qx, qy) else (0, 0) := by unfold dotD; rw [he, HQ.out]; cases fitZ qx <;> cases fitZ qy <;> rfl
      rw [hd, he]
      cases fitZ qx <;> cases fitZ qy <;> rfl)
    rw [hl1, hl2] at HR
    simp only [Bool.and_false, Bool.false_and, Bool.and_true, if_true, Bool.false_eq_true, if_false] at HR
    rw [hl1] at CF1
    rw [hl2] at CF2
    clear hl1 hl2
  iterate 3
    · go_wp2_with (first
        | (go_at_call 34; with_reducible first | (refine (CF1 _).mono ?_; rintro e w5 ⟨rfl, rfl⟩) | (refine (CF2 _).mono ?_; rintro e w5 ⟨rfl, rfl⟩))
        | (refine wpList_store_row rfl 27 (.tmp 4) (.tmp 54) (by with_reducible rfl) (w.heap.size + 1 + 1) #[.int .i64 0, .int .i64 0] (by rfl) (by rfl) 27 #[.int .i64 0, .int .i64 0] (by exact H6.out) flDtInfo rfl (by simp [Value.oneCell']) ?_))
      have K5 := blk_row H6.out #[.int .i64 0, .int .i64 0]
      refine bodyPost_ret (results_row_tmp Try.results12 _ _ (w.heap.size + 1 + 1) 27 #[.int .i64 0, .int .i64 0] (0, 0) _ (.int .i64 10) (by rfl) (by rfl) (show Blk _ _ _ _ from K5) Try.underlying27 rfl (by kernel_rfl)) rfl ⟨HR.out.symm, ?_⟩
      exact HB6.out.trans ((only_row (Only.refl _ _) (.inl (by simp)) _ : Only _ _ [w.heap.size + 1 + 1]).to_below HB6.out.size (by simp; omega))
  · go_wp2_with (first
      | (go_at_call 34; with_reducible first | (refine (CF1 _).mono ?_; rintro e w5 ⟨rfl, rfl⟩) | (refine (CF2 _).mono ?_; rintro e w5 ⟨rfl, rfl⟩))
      | (refine wpList_store_row rfl 27 (.tmp 4) (.tmp 57) (by with_reducible rfl) (w.heap.size + 1 + 1) #[.int .i64 qx, .int .i64 qy] (by rfl) (by rfl) 27 #[.int .i64 0, .int .i64 0] (by exact H6.out) flDtInfo rfl (by simp [Value.oneCell']) ?_))
    have K5 := blk_row H6.out #[.int .i64 qx, .int .i64 qy]
    refine bodyPost_ret (results_row_tmp Try.results12 _ _ (w.heap.size + 1 + 1) 27 #[.int .i64 qx, .int .i64 qy] (0, 0) _ (.int .i64 0) (by rfl) (by rfl) (show Blk _ _ _ _ from K5) Try.underlying27 rfl (by kernel_rfl)) rfl ⟨HR.out.symm, ?_⟩
    exact HB6.out.trans ((only_row (Only.refl _ _) (.inl (by simp)) _ : Only _ _ [w.heap.size + 1 + 1]).to_below HB6.out.size (by simp; omega))
theorem frdot_any (s : Sc) (x y z : Int) (w : World) (h : mscB s = true) : Calls Try.prog 12 #[.agg #[.int .i64 s.u, .int .i64 s.p, .int .i64 s.fx, .int .i64 s.fy], .agg #[.int .i64 x, .int .i64 y, .int .i64 z]] w fun e w' => e = .returned (.tuple #[.agg #[.int .i64 (dotD s x y).1, .int .i64 (dotD s x y).2], .int .i64 (dotE s x y)]) ∧ Below w.heap.size w w' := by
  cases hm : (mayB x && mayB y)
  · exact rdot_over s x y z w h hm
  · exact rdot_ok s x y z w h hm
end Go.Proofs.Ytlacjifnniahhaa
