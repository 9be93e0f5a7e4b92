/- StackStores: what is put into a place of the store is got from it again; no condition but what the row prints. -/
import Derived.Test.YtdnmhjlodmicoaaCSt6

namespace Go.Proofs.Ytdnmhjlodmicoaa.stackStores
open Go Go.ChangeShapes Go.WideShapes Go.ChangeAt Go.RowKit
set_option linter.unusedVariables false
set_option linter.unusedSimpArgs false

variable {W : World}
set_option maxRecDepth 100000 in
set_option maxHeartbeats 1000000 in
theorem fail0 (i k x y : Int) (h0 :  i < 0) : Calls Try.prog 6 #[.int .i64 i, .int .i64 k, .int .i64 x, .int .i64 y] W fun e w' => e = .returned (.bool true) ∧ Below W.heap.size W w' := by
  have d0 : decide (i < 0) = true := by simpa using h0
  clear h0
  go_enter Try.func6, Try.ntmps6
  go_wp2_with (first | (go_at_call 9; ((with_reducible refine (lives17 _).mono ?_); rintro e w1 ⟨rfl, b1⟩)))
  go_ret
  exact ⟨rfl, b1⟩
set_option maxRecDepth 100000 in
set_option maxHeartbeats 1000000 in
theorem fail1 (i k x y : Int) (h0 : ¬ i < 0) (h1 :  i > 31) : Calls Try.prog 6 #[.int .i64 i, .int .i64 k, .int .i64 x, .int .i64 y] W fun e w' => e = .returned (.bool true) ∧ Below W.heap.size W w' := by
  have d0 : decide (i < 0) = false := by simpa using h0
  have d1 : decide (i > 31) = true := by simpa using h1
  have d1b : decide (31 < i) = true := by simpa using h1
  clear h0 h1
  go_enter Try.func6, Try.ntmps6
  go_wp2_with (first | (go_at_call 9; ((with_reducible refine (lives17 _).mono ?_); rintro e w1 ⟨rfl, b1⟩)))
  go_ret
  exact ⟨rfl, b1⟩
set_option maxRecDepth 100000 in
set_option maxHeartbeats 1000000 in
theorem fail2 (i k x y : Int) (h0 : ¬ i < 0) (h1 : ¬ i > 31) (h2 :  k < 0) : Calls Try.prog 6 #[.int .i64 i, .int .i64 k, .int .i64 x, .int .i64 y] W fun e w' => e = .returned (.bool true) ∧ Below W.heap.size W w' := by
  have d0 : decide (i < 0) = false := by simpa using h0
  have d1 : decide (i > 31) = false := by simpa using h1
  have d2 : decide (k < 0) = true := by simpa using h2
  have d1b : decide (31 < i) = false := by simpa using h1
  clear h0 h1 h2
  go_enter Try.func6, Try.ntmps6
  go_wp2_with (first | (go_at_call 9; ((with_reducible refine (lives17 _).mono ?_); rintro e w1 ⟨rfl, b1⟩)))
  go_ret
  exact ⟨rfl, b1⟩
set_option maxRecDepth 100000 in
set_option maxHeartbeats 1000000 in
theorem fail3 (i k x y : Int) (h0 : ¬ i < 0) (h1 : ¬ i > 31) (h2 : ¬ k < 0) (h3 :  k > 31) : Calls Try.prog 6 #[.int .i64 i, .int .i64 k, .int .i64 x, .int .i64 y] W fun e w' => e = .returned (.bool true) ∧ Below W.heap.size W w' := by
  have d0 : decide (i < 0) = false := by simpa using h0
  have d1 : decide (i > 31) = false := by simpa using h1
  have d2 : decide (k < 0) = false := by simpa using h2
  have d3 : decide (k > 31) = true := by simpa using h3
  have d1b : decide (31 < i) = false := by simpa using h1
  have d3b : decide (31 < k) = true := by simpa using h3
  clear h0 h1 h2 h3
  go_enter Try.func6, Try.ntmps6
  go_wp2_with (first | (go_at_call 9; ((with_reducible refine (lives17 _).mono ?_); rintro e w1 ⟨rfl, b1⟩)))
  go_ret
  exact ⟨rfl, b1⟩
set_option maxRecDepth 100000 in
set_option maxHeartbeats 1000000 in
theorem fail4 (i k x y : Int) (h0 : ¬ i < 0) (h1 : ¬ i > 31) (h2 : ¬ k < 0) (h3 : ¬ k > 31) (hx : mayB x = false) : Calls Try.prog 6 #[.int .i64 i, .int .i64 k, .int .i64 x, .int .i64 y] W fun e w' => e = .returned (.bool true) ∧ Below W.heap.size W w' := by
  have d0 : decide (i < 0) = false := by simpa using h0
  have d1 : decide (i > 31) = false := by simpa using h1
  have d2 : decide (k < 0) = false := by simpa using h2
  have d3 : decide (k > 31) = false := by simpa using h3
  have d1b : decide (31 < i) = false := by simpa using h1
  have d3b : decide (31 < k) = false := by simpa using h3
  have CMx : ∀ w, Calls Try.prog 22 #[.int .i64 x] w fun e w' => e = .returned (.bool false) ∧ w = w' := fun w => by have := may_ref x w; rwa [hx] at this
  clear h0 h1 h2 h3 hx
  go_enter Try.func6, Try.ntmps6
  go_wp2_with (first | (go_at_call 9; ((with_reducible refine (lives17 _).mono ?_); rintro e w1 ⟨rfl, b1⟩)) | (go_at_call 22; ((with_reducible refine (CMx _).mono ?_); rintro e w0 ⟨rfl, rfl⟩)))
  go_ret
  exact ⟨rfl, b1⟩
set_option maxRecDepth 100000 in
set_option maxHeartbeats 1000000 in
theorem fail5 (i k x y : Int) (h0 : ¬ i < 0) (h1 : ¬ i > 31) (h2 : ¬ k < 0) (h3 : ¬ k > 31) (hx : mayB x = true) (hy : mayB y = false) : Calls Try.prog 6 #[.int .i64 i, .int .i64 k, .int .i64 x, .int .i64 y] W fun e w' => e = .returned (.bool true) ∧ Below W.heap.size W w' := by
  have d0 : decide (i < 0) = false := by simpa using h0
  have d1 : decide (i > 31) = false := by simpa using h1
  have d2 : decide (k < 0) = false := by simpa using h2
  have d3 : decide (k > 31) = false := by simpa using h3
  have d1b : decide (31 < i) = false := by simpa using h1
  have d3b : decide (31 < k) = false := by simpa using h3
  have CMx : ∀ w, Calls Try.prog 22 #[.int .i64 x] w fun e w' => e = .returned (.bool true) ∧ w = w' := fun w => by have := may_ref x w; rwa [hx] at this
  have CMy : ∀ w, Calls Try.prog 22 #[.int .i64 y] w fun e w' => e = .returned (.bool false) ∧ w = w' := fun w => by have := may_ref y w; rwa [hy] at this
  clear h0 h1 h2 h3 hx hy
  go_enter Try.func6, Try.ntmps6
  go_wp2_with (first | (go_at_call 9; ((with_reducible refine (lives17 _).mono ?_); rintro e w1 ⟨rfl, b1⟩)) | (go_at_call 22; ((with_reducible refine (CMx _).mono ?_); rintro e w0 ⟨rfl, rfl⟩)) | (go_at_call 22; ((with_reducible refine (CMy _).mono ?_); rintro e w0 ⟨rfl, rfl⟩)))
  go_ret
  exact ⟨rfl, b1⟩
theorem mayI (I : Nat) (h : I ≤ 31) : mayB ((I : Int) * 65536) = true := by unfold mayB; simp; omega
theorem mayI4 (I : Nat) (h : I ≤ 31) : mayB ((I : Int) * 65536 + 40000) = true := by unfold mayB; simp; omega
theorem push_yes (q : Nat) (nv : Value) (L St ds : List Int) (x : Int) (w : World) (h : Sk w q nv L St ds) (hx : mayB x = true) (hl : L.length < 48) :
    Calls Try.prog 10 #[.pointer (some ⟨q, 0, none⟩), .int .i64 x] w (Did q nv w 0 (L ++ [x]) St ds) := by
  have h1 := push_any q nv L St ds x w h
  unfold pushE pushL at h1
  rwa [if_pos hx, if_pos hx, if_neg (by omega), if_neg (by omega)] at h1
theorem get2 (I K : Nat) (x y : Int) (hI : I < 32) (hK : K < 32) : (((List.replicate 32 0).set K y).set I x).getD K 0 = (if I = K then x else y) ∧ (((List.replicate 32 0).set K y).set I x).getD I 0 = x := by
  have l1 : I < ((List.replicate 32 0).set K y).length := by simp; exact hI
  refine ⟨?_, by rw [List.getD_eq_getElem?_getD, List.getElem?_set_self l1]; rfl⟩
  by_cases h : I = K
  · subst h
    rw [if_pos rfl, List.getD_eq_getElem?_getD, List.getElem?_set_self l1]; rfl
  · rw [if_neg h, List.getD_eq_getElem?_getD, List.getElem?_set_ne h, List.getElem?_set_self (by simp; exact hK)]; rfl
set_option maxRecDepth 100000 in
set_option maxHeartbeats 4000000 in
theorem good (I K : Nat) (x y : Int) (hI : I ≤ 31) (hK : K ≤ 31) (hx : mayB x = true) (hy : mayB y = true) : Calls Try.prog 6 #[.int .i64 (I : Nat), .int .i64 (K : Nat), .int .i64 x, .int .i64 y] W fun e w' => e = .returned (.bool true) ∧ Below W.heap.size W w' := by
  have CMx : ∀ w, Calls Try.prog 22 #[.int .i64 x] w fun e w' => e = .returned (.bool true) ∧ w = w' := fun w => by have := may_ref x w; rwa [hx] at this
  have CMy : ∀ w, Calls Try.prog 22 #[.int .i64 y] w fun e w' => e = .returned (.bool true) ∧ w = w' := fun w => by have := may_ref y w; rwa [hy] at this
  have d1 : decide ((I : Int) > 31) = false := by simp; omega
  have d2 : decide ((K : Int) > 31) = false := by simp; omega
  have d3 : decide ((31 : Int) < (I : Int)) = false := by simp; omega
  have d4 : decide ((31 : Int) < (K : Int)) = false := by simp; omega
  have mI := mayI I hI
  have mK := mayI K hK
  have mK4 := mayI4 K hK
  obtain ⟨g1, g2⟩ := get2 I K x y (by omega) (by omega)
  have cells : ∀ V : World, Lists (V.alloc (.cells #[.int .i64 x, .int .i64 ((I : Int) * 65536), .int .i64 y, .int .i64 ((K : Int) * 65536 + 40000)] 3)) (V.heap.size + 1) (some ⟨V.heap.size, 0, none⟩) (intCells [x, ((I : Int) * 65536), y, ((K : Int) * 65536 + 40000)]) := fun V => lists_row V [.int .i64 x, .int .i64 ((I : Int) * 65536), .int .i64 y, .int .i64 ((K : Int) * 65536 + 40000)] 3
  have CO := fun V : World => of_any (V.heap.size + 1) (some ⟨V.heap.size, 0, none⟩) 4 [x, ((I : Int) * 65536), y, ((K : Int) * 65536 + 40000)] (V.alloc (.cells #[.int .i64 x, .int .i64 ((I : Int) * 65536), .int .i64 y, .int .i64 ((K : Int) * 65536 + 40000)] 3)) (by simp) (cells V) (by intro z hz; simp at hz; rcases hz with hz | hz | hz | hz; exact hz ▸ hx; exact hz ▸ mI; exact hz ▸ hy; exact hz ▸ mK4) (show 4 ≤ 48 by decide)
  simp only [List.length_cons, List.length_nil, Nat.reduceAdd] at CO
  have D1 : ∀ (q : Nat) (V : World) (nv : Value), Sk V q nv [x, ((I : Int) * 65536), y, ((K : Int) * 65536 + 40000)] (List.replicate 32 0) [] → Calls Try.prog 14 #[.pointer (some ⟨q, 0, none⟩), .int .i64 20] V (Did q nv V 0 [x, ((I : Int) * 65536)] ((List.replicate 32 0).set K y) []) := fun q V nv hs => cd_put q nv [x, ((I : Int) * 65536)] (List.replicate 32 0) [] y ((K : Int) * 65536 + 40000) K V hs (by omega) (by omega)
  have D2 : ∀ (q : Nat) (V : World) (nv : Value), Sk V q nv [x, ((I : Int) * 65536)] ((List.replicate 32 0).set K y) [] → Calls Try.prog 14 #[.pointer (some ⟨q, 0, none⟩), .int .i64 20] V (Did q nv V 0 [] (((List.replicate 32 0).set K y).set I x) []) := fun q V nv hs => cd_put q nv [] ((List.replicate 32 0).set K y) [] x ((I : Int) * 65536) I V hs (by omega) (by omega)
  have D3 : ∀ (q : Nat) (V : World) (nv : Value), Sk V q nv [] (((List.replicate 32 0).set K y).set I x) [] → Calls Try.prog 10 #[.pointer (some ⟨q, 0, none⟩), .int .i64 ((K : Int) * 65536)] V (Did q nv V 0 [((K : Int) * 65536)] (((List.replicate 32 0).set K y).set I x) []) := fun q V nv hs => push_yes q nv [] (((List.replicate 32 0).set K y).set I x) [] ((K : Int) * 65536) V hs mK (by simp)
  have D4 : ∀ (q : Nat) (V : World) (nv : Value), Sk V q nv [((K : Int) * 65536)] (((List.replicate 32 0).set K y).set I x) [] → Calls Try.prog 14 #[.pointer (some ⟨q, 0, none⟩), .int .i64 21] V (Did q nv V 0 [if I = K then x else y] (((List.replicate 32 0).set K y).set I x) []) := fun q V nv hs => by have h := cd_get q nv [] (((List.replicate 32 0).set K y).set I x) [] ((K : Int) * 65536) K V hs (by omega) (by omega); rw [g1] at h; exact h
  have D5 : ∀ (q : Nat) (V : World) (nv : Value), Sk V q nv [if I = K then x else y] (((List.replicate 32 0).set K y).set I x) [] → Calls Try.prog 10 #[.pointer (some ⟨q, 0, none⟩), .int .i64 ((I : Int) * 65536)] V (Did q nv V 0 [if I = K then x else y, ((I : Int) * 65536)] (((List.replicate 32 0).set K y).set I x) []) := fun q V nv hs => push_yes q nv [if I = K then x else y] (((List.replicate 32 0).set K y).set I x) [] ((I : Int) * 65536) V hs mI (by simp)
  have D6 : ∀ (q : Nat) (V : World) (nv : Value), Sk V q nv [if I = K then x else y, ((I : Int) * 65536)] (((List.replicate 32 0).set K y).set I x) [] → Calls Try.prog 14 #[.pointer (some ⟨q, 0, none⟩), .int .i64 21] V (Did q nv V 0 [if I = K then x else y, x] (((List.replicate 32 0).set K y).set I x) []) := fun q V nv hs => by have h := cd_get q nv [if I = K then x else y] (((List.replicate 32 0).set K y).set I x) [] ((I : Int) * 65536) I V hs (by omega) (by omega); rw [g2] at h; exact h
  by_cases hIK : I = K
  all_goals
    first | (have q1 : ((I : Int) == (K : Int)) = true := by simp; omega) | (have q1 : ((I : Int) == (K : Int)) = false := by simp; omega)
    first | (have q2 : decide ((I : Int) = (K : Int)) = true := by simp; omega) | (have q2 : decide ((I : Int) = (K : Int)) = false := by simp; omega)
    first | rw [if_pos hIK] at D4 D5 D6 | rw [if_neg hIK] at D4 D5 D6
    clear g1 g2 hx hy cells mI mK mK4 hIK
    go_enter Try.func6, Try.ntmps6
    go_wp2_with (first
      | (go_at_call 22; ((with_reducible refine (CMx _).mono ?_); rintro e w0 ⟨rfl, rfl⟩))
      | (go_at_call 22; ((with_reducible refine (CMy _).mono ?_); rintro e w0 ⟨rfl, rfl⟩))
      | (go_at_call 23; ((with_reducible refine (CO _).mono ?_); rintro e w1 ⟨q, nv, rfl, hs, b1, hq1⟩); have b0 : Below W.heap.size W (W.alloc (.cells #[.int .i64 x, .int .i64 ((I : Int) * 65536), .int .i64 y, .int .i64 ((K : Int) * 65536 + 40000)] 3)) := (Below.refl _ _).alloc (Nat.le_refl _) _; have hb := b0.trans (b1.mono b0.size); have hq := Nat.le_trans b0.size hq1)
      | (go_at_call 9; ((with_reducible refine (lives17 _).mono ?_); rintro e w2 ⟨rfl, b2⟩); have hs := hs.below b2; have hb := hb.trans (b2.mono hb.size))
      | (go_at_call 14; (with_reducible refine (D1 _ _ _ hs).mono ?_); rintro e w2 ⟨rfl, nv2, hs2, hm2⟩; have hb := hb.trans (hm2.to_below hs.own hq hs.lt); have hs := hs2) | (go_at_call 14; (with_reducible refine (D2 _ _ _ hs).mono ?_); rintro e w2 ⟨rfl, nv2, hs2, hm2⟩; have hb := hb.trans (hm2.to_below hs.own hq hs.lt); have hs := hs2) | (go_at_call 10; (with_reducible refine (D3 _ _ _ hs).mono ?_); rintro e w2 ⟨rfl, nv2, hs2, hm2⟩; have hb := hb.trans (hm2.to_below hs.own hq hs.lt); have hs := hs2) | (go_at_call 14; (with_reducible refine (D4 _ _ _ hs).mono ?_); rintro e w2 ⟨rfl, nv2, hs2, hm2⟩; have hb := hb.trans (hm2.to_below hs.own hq hs.lt); have hs := hs2) | (go_at_call 10; (with_reducible refine (D5 _ _ _ hs).mono ?_); rintro e w2 ⟨rfl, nv2, hs2, hm2⟩; have hb := hb.trans (hm2.to_below hs.own hq hs.lt); have hs := hs2) | (go_at_call 14; (with_reducible refine (D6 _ _ _ hs).mono ?_); rintro e w2 ⟨rfl, nv2, hs2, hm2⟩; have hb := hb.trans (hm2.to_below hs.own hq hs.lt); have hs := hs2)
      | (go_at_call 20; ((with_reducible refine (all_any _ _ _ _ _ _ hs).mono ?_); rintro e w3 ⟨va, rfl, owna, ba⟩); obtain ⟨Aa, ca, rfl, hla, hca⟩ := own_lists owna; have hs := hs.below ba; have hb := hb.trans (ba.mono hb.size))
      | (go_at_call 18; ((with_reducible refine (sameInts_lists Aa _ 2 ca _ _ _ (hla.below ((Below.refl _ _).alloc (Nat.le_refl _) _) |>.more (by simp)) ((lists_row w3 [.int .i64 _, .int .i64 _] 3).more (by simp)) rfl (by decide)).mono ?_); rintro e w4 ⟨rfl, b4⟩); have hb := (hb.alloc hb.size _).trans (b4.mono (hb.alloc hb.size _).size)))
    go_ret
    exact ⟨rfl, hb⟩
theorem walk (i : Int) (_ : (Lit.int .i64 i).wf = true) (k : Int) (_ : (Lit.int .i64 k).wf = true) (x : Int) (_ : (Lit.int .i64 x).wf = true) (y : Int) (_ : (Lit.int .i64 y).wf = true) : Calls Try.prog 6 #[.int .i64 i, .int .i64 k, .int .i64 x, .int .i64 y] W fun e w' => e = .returned (.bool true) ∧ Below W.heap.size W w' := by
  by_cases h0 : i < 0
  · exact fail0 i k x y h0
  by_cases h1 : i > 31
  · exact fail1 i k x y h0 h1
  by_cases h2 : k < 0
  · exact fail2 i k x y h0 h1 h2
  by_cases h3 : k > 31
  · exact fail3 i k x y h0 h1 h2 h3
  cases hx : mayB x
  · exact fail4 i k x y h0 h1 h2 h3 hx
  cases hy : mayB y
  · exact fail5 i k x y h0 h1 h2 h3 hx hy
  obtain ⟨I, rfl⟩ : ∃ I : Nat, i = (I : Int) := ⟨i.toNat, by omega⟩
  obtain ⟨K, rfl⟩ : ∃ K : Nat, k = (K : Int) := ⟨k.toNat, by omega⟩
  exact good I K x y (by omega) (by omega) hx hy

set_option linter.unusedVariables false in
set_option maxRecDepth 100000 in
theorem lifted (os : Os) (started : os.Started) (H : Type) (enc : TypeId × Value → H) :
    ReturnsInHanded {} Try.checked os 6 .any (Rows.stackStoresSpec.pre6 enc Try.prog Try.f6 Rows.stackStoresRow.domain false) (Rows.stackStoresSpec.post enc Try.prog Try.f6 false true false false) := by
  refine returnsInHanded_of_change (C := Try.checked) Try.own started (by kernel_rfl) Try.func6
    (ChangeSpec.witness6 (enc := enc) (C := Try.checked) false ⟨#[], #[.int .i64 0, .int .i64 0, .int .i64 0, .int .i64 0], []⟩ 8 (by kernel_rfl) (by kernel_rfl) (by kernel_rfl) (by kernel_rfl)) ?_
  intro W base args ds gs before hval0 hW hcnd _
  have hval : ∀ (j : Nat) t v, Try.f6.params[j]? = some t → args[j]? = some v → Value.okWide Try.prog W .any base t v := hval0
  have hW' := hW
  obtain ⟨p, q, hA0, hV, rfl, hfz, hnd⟩ := hW
  have hA : DataW.TrodAll enc Try.prog W 0 (fun _ => true) true Try.f6.params.toList args.toList ds p := hA0
  rw [Try.params6] at hA hval
  obtain ⟨v0, vs0, d0, ds0, p0, q0, hargs, rfl, rfl, h0, r0⟩ := trodAll_cons hA
  obtain ⟨v1, vs1, d1, ds1, p1, q1, rfl, rfl, rfl, h1, r1⟩ := trodAll_cons r0
  obtain ⟨v2, vs2, d2, ds2, p2, q2, rfl, rfl, rfl, h2, r2⟩ := trodAll_cons r1
  obtain ⟨v3, vs3, d3, ds3, p3, q3, rfl, rfl, rfl, h3, r3⟩ := trodAll_cons r2
  obtain ⟨rfl, rfl, rfl⟩ := trodAll_nil r3
  obtain rfl : args = #[v0, v1, v2, v3] := by cases args; simp_all
  obtain ⟨rfl, rfl⟩ := trodVars_none hV
  obtain ⟨a0, rfl, rfl, rfl, w0⟩ := open_int Try.underlying3 (hval 0 3 v0 rfl rfl) h0
  obtain ⟨a1, rfl, rfl, rfl, w1⟩ := open_int Try.underlying3 (hval 1 3 v1 rfl rfl) h1
  obtain ⟨a2, rfl, rfl, rfl, w2⟩ := open_int Try.underlying3 (hval 2 3 v2 rfl rfl) h2
  obtain ⟨a3, rfl, rfl, rfl, w3⟩ := open_int Try.underlying3 (hval 3 3 v3 rfl rfl) h3
  clear hA0 hval0
  simp only [List.append_nil] at hW'
  refine (walk (W := W) a0 w0 a1 w1 a2 w2 a3 w3).mono fun e W' ⟨he, hg⟩ => ?_
  subst he
  exact ⟨_, rfl, law_post Try.laidOut rfl Try.underlying4 (by kernel_rfl) rfl rfl rfl rfl hW' hg⟩

theorem over : Rows.stackStoresRow.holds Try.pinned (OpenSpec.ofChange Rows.stackStoresSpec) :=
  OpenClaim.holds_of_wide 6 Try.f6 rfl rfl rfl rfl rfl rfl rfl ⟨rfl, rfl, rfl, rfl, rfl⟩ rfl rfl rfl rfl rfl (by kernel_rfl) Try.func6 (by kernel_rfl)
    (of_decide_eq_true (by kernel_rfl)) (by unfold Func.isWrapper; first | (rw [if_pos (by decide +kernel)]; kernel_rfl) | (rw [if_neg (by decide +kernel)]; exact ⟨rfl, rfl⟩))
    (fun os started H enc _ => lifted os started H enc)

theorem proved : Rows.StackStoresSaid :=
  over

end Go.Proofs.Ytdnmhjlodmicoaa.stackStores
