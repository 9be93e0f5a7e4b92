/- Part 14 of the proof: SpV, SpW, OuS, SpX. -/
import Derived.Test.YtelhckckcilpaaaCSp12

namespace Go.Proofs.Ytelhckckcilpaaa
open Go Go.RowKit
set_option linter.unusedVariables false
set_option linter.unusedSimpArgs false

/-- A step fits the bits of its flag. -/
def sOk (j1 j2 f : Nat) (x : Int) : Prop := (bt f j1 = true → bt f j2 = true → 0 ≤ x ∧ x ≤ 255) ∧ (bt f j1 = true → bt f j2 = false → -255 ≤ x ∧ x ≤ 0) ∧ (bt f j1 = false → bt f j2 = true → x = 0) ∧ inS x = true
def SOk (j1 j2 : Nat) : List Nat → List Int → Prop
  | [], [] => True
  | f :: F, x :: X => sOk j1 j2 f x ∧ SOk j1 j2 F X
  | _, _ => False
theorem inS_iff {x : Int} : inS x = true ↔ -32768 ≤ x ∧ x ≤ 32767 := by unfold inS; simp
theorem car_back (bs : List Value) (j1 j2 : Nat) : ∀ (F : List Nat) (X : List Int) (k : Nat) (A B : List Value), bs = A ++ (stB j1 j2 F X ++ B) → k = A.length → SOk j1 j2 F X →
    carr (rf1 bs) (rf2 bs) j1 j2 F (zer X.length) k = (X, A.length + (stB j1 j2 F X).length)
  | [], [], k, A, B, h, hk, hs => by subst hk; rfl
  | [], x :: X, k, A, B, h, hk, hs => hs.elim
  | f :: F, [], k, A, B, h, hk, hs => hs.elim
  | f :: F, x :: X, k, A, B, h, hk, hs => by
    obtain ⟨⟨s1, s2, s3, s4⟩, hs⟩ := hs
    obtain ⟨s4, s5⟩ := inS_iff.1 s4
    rw [stB] at h ⊢
    have hz : zer (X.length + 1) = 0 :: zer X.length := rfl
    rw [List.length_cons, hz, carr]
    cases h1 : bt f j1
    · cases h2 : bt f j2
      · have e := ib2_at (bs := bs) (A := A) (k := k) (x := x) (B := stB j1 j2 F X ++ B) (by simpa [h1, h2, List.append_assoc] using h) hk s4 s5
        have ih := car_back bs j1 j2 F X (k + 2) (A ++ be2 x) B (by simpa [h1, h2, List.append_assoc] using h) (by rw [List.length_append, be2_len, hk]) hs
        have es : stepC (rf1 bs) (rf2 bs) j1 j2 f 0 k = (x, k + 2) := by unfold stepC rf2; rw [h1, h2, e]; rfl
        rw [es]
        dsimp only
        rw [ih]
        simp [h1, h2, be2_len]; omega
      · have e := s3 h1 h2
        have ih := car_back bs j1 j2 F X k A B (by simpa [h1, h2, List.append_assoc] using h) hk hs
        have es : stepC (rf1 bs) (rf2 bs) j1 j2 f 0 k = (x, k) := by unfold stepC; rw [h1, h2, e]; rfl
        rw [es]
        dsimp only
        rw [ih]
        simp [h1, h2]
    · cases h2 : bt f j2
      · obtain ⟨t1, t2⟩ := s2 h1 h2
        have e := ub1_at (bs := bs) (A := A) (k := k) (x := -x) (B := stB j1 j2 F X ++ B) (by simpa [h1, h2, List.append_assoc] using h) hk (by omega) (by omega)
        have ih := car_back bs j1 j2 F X (k + 1) (A ++ be1 (-x)) B (by simpa [h1, h2, List.append_assoc] using h) (by rw [List.length_append, be1_len, hk]) hs
        have es : stepC (rf1 bs) (rf2 bs) j1 j2 f 0 k = (x, k + 1) := by
          unfold stepC rf1
          rw [h1, h2]
          simp only [if_true, Bool.false_eq_true, if_false]
          rw [e]
          simp
        rw [es]
        dsimp only
        rw [ih]
        simp [h1, h2, be1_len]; omega
      · obtain ⟨t1, t2⟩ := s1 h1 h2
        have e := ub1_at (bs := bs) (A := A) (k := k) (x := x) (B := stB j1 j2 F X ++ B) (by simpa [h1, h2, List.append_assoc] using h) hk (by omega) (by omega)
        have ih := car_back bs j1 j2 F X (k + 1) (A ++ be1 x) B (by simpa [h1, h2, List.append_assoc] using h) (by rw [List.length_append, be1_len, hk]) hs
        have es : stepC (rf1 bs) (rf2 bs) j1 j2 f 0 k = (x, k + 1) := by
          unfold stepC rf1
          rw [h1, h2]
          simp only [if_true]
          rw [e]
        rw [es]
        dsimp only
        rw [ih]
        simp [h1, h2, be1_len]; omega
theorem sb_spec (a b : Nat) (x : Int) : (sbE a b x = b ∧ x = 0) ∨ (sbE a b x = a + b ∧ 0 < x ∧ x ≤ 255) ∨ (sbE a b x = a ∧ -255 ≤ x ∧ x < 0) ∨ (sbE a b x = 0 ∧ (x < -255 ∨ 255 < x)) := by
  unfold sbE
  by_cases h : x = 0
  · rw [if_pos h]; exact .inl ⟨rfl, h⟩
  · rw [if_neg h]
    by_cases h1 : 0 < x ∧ x ≤ 255
    · rw [if_pos h1]; exact .inr (.inl ⟨rfl, h1⟩)
    · rw [if_neg h1]
      by_cases h2 : -255 ≤ x ∧ x < 0
      · rw [if_pos h2]; exact .inr (.inr (.inl ⟨rfl, h2⟩))
      · rw [if_neg h2]; exact .inr (.inr (.inr ⟨rfl, by omega⟩))
set_option maxRecDepth 100000 in
theorem fg_ok (x y k : Int) (hx : inS x = true) (hy : inS y = true) : sOk 1 4 (fgE x y k) x ∧ sOk 2 5 (fgE x y k) y ∧ bt (fgE x y k) 3 = false ∧ knd (fgE x y k) = if k = 1 then 1 else 2 := by
  unfold fgE sOk knd
  have hx' := hx
  have hy' := hy
  rcases sb_spec 2 16 x with ⟨h, hx0⟩ | ⟨h, hx0, hx1⟩ | ⟨h, hx0, hx1⟩ | ⟨h, hx0⟩ <;> rcases sb_spec 4 32 y with ⟨g, hy0⟩ | ⟨g, hy0, hy1⟩ | ⟨g, hy0, hy1⟩ | ⟨g, hy0⟩ <;> (rw [h, g]; by_cases hk : k = 1)
  all_goals first | rw [if_pos hk, if_pos hk] | rw [if_neg hk, if_neg hk]
  all_goals (simp only [bt, Nat.reduceAdd]; refine ⟨⟨?_, ?_, ?_, ?_⟩, ⟨?_, ?_, ?_, ?_⟩, ?_, ?_⟩)
  all_goals first | exact hx | exact hy | (intro a b; first | omega | exact absurd a (by decide) | exact absurd b (by decide)) | decide
theorem fgs_sok : ∀ (P : List Pt) (X Y : List Int), X.length = P.length → Y.length = P.length → (∀ x ∈ X, inS x = true) → (∀ y ∈ Y, inS y = true) → SOk 1 4 (fgsE P X Y) X ∧ SOk 2 5 (fgsE P X Y) Y ∧ ∀ f ∈ fgsE P X Y, f < 256 ∧ bt f 3 = false
  | [], [], [], _, _, _, _ => ⟨trivial, trivial, fun f hf => by simp [fgsE] at hf⟩
  | p :: P, x :: X, y :: Y, h1, h2, hx, hy => by
    obtain ⟨a, b, c⟩ := fgs_sok P X Y (by simpa using h1) (by simpa using h2) (fun z hz => hx z (by simp [hz])) (fun z hz => hy z (by simp [hz]))
    obtain ⟨d, e, f, _⟩ := fg_ok x y p.2.2 (hx x (by simp)) (hy y (by simp))
    refine ⟨⟨d, a⟩, ⟨e, b⟩, fun g hg => ?_⟩
    rw [fgsE] at hg
    rcases List.mem_cons.1 hg with rfl | hg
    · exact ⟨fgE_lt _ _ _, f⟩
    · exact c g hg
  | [], _ :: _, _, h1, _, _, _ => by simp at h1
  | [], [], _ :: _, _, h2, _, _ => by simp at h2
  | p :: P, [], _, h1, _, _, _ => by simp at h1
  | p :: P, x :: X, [], _, h2, _, _ => by simp at h2
theorem stp_cons {pl : Pt → Int} {p : Pt} {P : List Pt} {a : Int} {X : List Int} (h : stpE pl (p :: P) a = some X) : ∃ X2, X = ((pl p).tdiv 65536 - a) :: X2 ∧ stpE pl P ((pl p).tdiv 65536) = some X2 ∧ (pl p).tdiv 65536 * 65536 = pl p ∧ inS ((pl p).tdiv 65536) = true ∧ inS ((pl p).tdiv 65536 - a) = true := by
  unfold stpE at h
  split at h
  · rename_i hc
    simp only [Bool.and_eq_true] at hc
    cases h2 : stpE pl P ((pl p).tdiv 65536) with
    | none => rw [h2] at h; cases h
    | some X2 =>
      rw [h2] at h
      cases h
      exact ⟨X2, rfl, rfl, by simpa using hc.1, hc.2.1, hc.2.2⟩
  · cases h
theorem pts_back : ∀ (P : List Pt) (a b : Int) (X Y : List Int), stpE (fun p => p.1) P a = some X → stpE (fun p => p.2.1) P b = some Y → (∀ p ∈ P, p.2.2 = 1 ∨ p.2.2 = 2) → ptsC (fgsE P X Y) X Y a b = some P
  | [], a, b, X, Y, hX, hY, hk => by
    unfold stpE at hX hY
    cases hX; cases hY; rfl
  | p :: P, a, b, X, Y, hX, hY, hk => by
    obtain ⟨X2, rfl, hX2, x1, x2, x3⟩ := stp_cons hX
    obtain ⟨Y2, rfl, hY2, y1, y2, y3⟩ := stp_cons hY
    have e1 : a + (p.1.tdiv 65536 - a) = p.1.tdiv 65536 := by omega
    have e2 : b + (p.2.1.tdiv 65536 - b) = p.2.1.tdiv 65536 := by omega
    have ek := (fg_ok (p.1.tdiv 65536 - a) (p.2.1.tdiv 65536 - b) p.2.2 x3 y3).2.2.2
    have hp := hk p (by simp)
    rw [fgsE, ptsC, e1, e2, x2, y2]
    simp only [Bool.and_self, if_true]
    rw [pts_back P _ _ X2 Y2 hX2 hY2 (fun q hq => hk q (by simp [hq])), ek, x1, y1]
    obtain ⟨p1, p2, p3⟩ := p
    simp only [Option.map_some]
    congr 2
    dsimp only at hp ⊢
    rcases hp with rfl | rfl <;> rfl
theorem box_len (Ls : List (List Pt)) : (boxB Ls).length = 8 := by rw [boxB_eq, sidB_len 4 (by simp [sides])]
theorem j14 (f g : Nat) (h : fEq f g) : bt f 1 = bt g 1 ∧ bt f 4 = bt g 4 := ⟨h.2.1, h.2.2.2.1⟩
theorem j25 (f g : Nat) (h : fEq f g) : bt f 2 = bt g 2 ∧ bt f 5 = bt g 5 := ⟨h.2.2.1, h.2.2.2.2⟩
/-- The kinds of an outline that may be, without cubic points. -/
theorem kinds12 {Ls : List (List Pt)} (hc : chkE Ls = 0) (hcub : Ls.flatten.any isCub = false) : ∀ p ∈ Ls.flatten, p.2.2 = 1 ∨ p.2.2 = 2 := by
  intro p hp
  have h3 : isCub p = false := by
    have := List.any_eq_false.1 hcub p hp
    simpa using this
  obtain ⟨L, hL, hpL⟩ := List.mem_flatten.1 hp
  have h := (chk_zero hc).2.2 L hL
  unfold mayC at h
  rw [Bool.and_eq_true, allI_true] at h
  obtain ⟨j, hj⟩ := List.getElem?_of_mem hpL
  have h2 := h.2 j p hj
  unfold isCub at h3
  have h4 : ¬ p.2.2 = 3 := by simpa using h3
  have h5 : 1 ≤ p.2.2 ∧ p.2.2 ≤ 3 := by
    unfold okA okP at h2
    simp at h2
    omega
  omega
theorem nonempty_of {Ls : List (List Pt)} (hc : chkE Ls = 0) : ∀ L ∈ Ls, 0 < L.length := by
  intro L hL
  have h := (chk_zero hc).2.2 L hL
  unfold mayC at h
  rw [Bool.and_eq_true] at h
  simpa using h.1
theorem spB_back (Ls : List (List Pt)) (X Y : List Int) (B : List Value) (hc : chkE Ls = 0) (hX : stpE (fun p => p.1) Ls.flatten 0 = some X) (hY : stpE (fun p => p.2.1) Ls.flatten 0 = some Y) (hcub : Ls.flatten.any isCub = false) (hne : Ls ≠ []) :
    lasR (spB Ls X Y ++ B) = (endsOf 0 Ls, 0) ∧ cntL (endsOf 0 Ls) = cntO Ls ∧ ub2 (spB Ls X Y ++ B) (10 + 2 * Ls.length) = 0 ∧
    rpC (spB Ls X Y ++ B) (cntO Ls) (10 + 2 * Ls.length + 2) = some Ls.flatten ∧ rpK (spB Ls X Y ++ B) (cntO Ls) (10 + 2 * Ls.length + 2) = (spB Ls X Y).length := by
  obtain ⟨c1, c2, c3⟩ := chk_zero hc
  have hpos := nonempty_of hc
  have xl := stp_len _ _ _ hX
  have yl := stp_len _ _ _ hY
  have xs := stp_bd _ _ _ hX
  have ys := stp_bd _ _ _ hY
  obtain ⟨k1, k2, k3⟩ := fgs_sok Ls.flatten X Y xl yl xs ys
  have fl := fgs_len Ls.flatten X Y xl yl
  have hpb := pts_back Ls.flatten 0 0 X Y hX hY (kinds12 hc hcub)
  have hcnt : cntO Ls = Ls.flatten.length := (cntO_flat Ls).symm
  have h1 := las_back
  obtain ⟨F, hF⟩ : ∃ F, F = fgsE Ls.flatten X Y := ⟨_, rfl⟩
  have hE : spB Ls X Y = ((((be2 (Ls.length : Nat) ++ boxB Ls) ++ lastsE 0 Ls) ++ be2 0) ++ pfE F.length (iF F)) ++ (stB 1 4 F X ++ stB 2 5 F Y) := by unfold spB iF; rw [hF]
  rw [← hF] at k1 k2 k3 fl hpb
  obtain ⟨E, hEE⟩ : ∃ E, E = spB Ls X Y ++ B := ⟨_, rfl⟩
  have hElen : (spB Ls X Y).length = 12 + 2 * Ls.length + (pfE F.length (iF F)).length + (stB 1 4 F X).length + (stB 2 5 F Y).length := by
    rw [hE]
    simp only [List.length_append, be2_len, box_len, lastsE_len]
    omega
  rw [hElen]
  rw [hE] at hEE
  rw [show spB Ls X Y ++ B = E by rw [hEE, hE]]
  clear hE hElen
  have e0 : ib2 E 0 = (Ls.length : Nat) := ib2_at (A := []) (B := boxB Ls ++ (lastsE 0 Ls ++ (be2 0 ++ (pfE F.length (iF F) ++ (stB 1 4 F X ++ (stB 2 5 F Y ++ B)))))) (by rw [hEE]; simp only [List.append_assoc, List.nil_append]) rfl (by omega) (by omega)
  have e1 := las_back E Ls 0 10 (be2 (Ls.length : Nat) ++ boxB Ls) (be2 0 ++ (pfE F.length (iF F) ++ (stB 1 4 F X ++ (stB 2 5 F Y ++ B)))) [] (by rw [hEE]; simp only [List.append_assoc]) (by rw [List.length_append, be2_len, box_len]) hpos (by omega) rfl
  have e2 : (ub2 E (10 + 2 * Ls.length) : Int) = 0 := ub2_at (A := (be2 (Ls.length : Nat) ++ boxB Ls) ++ lastsE 0 Ls) (B := pfE F.length (iF F) ++ (stB 1 4 F X ++ (stB 2 5 F Y ++ B))) (by rw [hEE]; simp only [List.append_assoc]) (by simp only [List.length_append, be2_len, box_len, lastsE_len]) (by omega) (by omega)
  have e3 := cnt_ends Ls 0 hpos hne
  obtain ⟨F2, f1, f2⟩ := flg_back E F.length F.length F (10 + 2 * Ls.length + 2) F.length (((be2 (Ls.length : Nat) ++ boxB Ls) ++ lastsE 0 Ls) ++ be2 0) (stB 1 4 F X ++ (stB 2 5 F Y ++ B)) [] (by rw [hEE]; simp only [List.append_assoc]) (by simp only [List.length_append, be2_len, box_len, lastsE_len]) (Nat.le_refl _) k3 (by simp) (Nat.le_refl _)
  rw [List.nil_append] at f1
  have fl2 := FEq_len f2
  have g1 := car_back E 1 4 F X (10 + 2 * Ls.length + 2 + (pfE F.length (iF F)).length) ((((be2 (Ls.length : Nat) ++ boxB Ls) ++ lastsE 0 Ls) ++ be2 0) ++ pfE F.length (iF F)) (stB 2 5 F Y ++ B) (by rw [hEE]; simp only [List.append_assoc]) (by simp only [List.length_append, be2_len, box_len, lastsE_len]) k1
  have g2 := car_back E 2 5 F Y (10 + 2 * Ls.length + 2 + (pfE F.length (iF F)).length + (stB 1 4 F X).length) (((((be2 (Ls.length : Nat) ++ boxB Ls) ++ lastsE 0 Ls) ++ be2 0) ++ pfE F.length (iF F)) ++ stB 1 4 F X) B (by rw [hEE]; simp only [List.append_assoc]) (by simp only [List.length_append, be2_len, box_len, lastsE_len]) k2
  have la : (((((be2 (Ls.length : Nat) ++ boxB Ls) ++ lastsE 0 Ls) ++ be2 0))).length = 10 + 2 * Ls.length + 2 := by simp only [List.length_append, be2_len, box_len, lastsE_len]
  have lb : ((((be2 (Ls.length : Nat) ++ boxB Ls) ++ lastsE 0 Ls) ++ be2 0) ++ pfE F.length (iF F)).length = 10 + 2 * Ls.length + 2 + (pfE F.length (iF F)).length := by rw [List.length_append, la]
  have lc : (((((be2 (Ls.length : Nat) ++ boxB Ls) ++ lastsE 0 Ls) ++ be2 0) ++ pfE F.length (iF F)) ++ stB 1 4 F X).length = 10 + 2 * Ls.length + 2 + (pfE F.length (iF F)).length + (stB 1 4 F X).length := by rw [List.length_append, lb]
  rw [la] at f1
  rw [lb] at g1
  rw [lc] at g2
  have hn : cntO Ls = F.length := by rw [hcnt, fl]
  have gx : rpX E F.length F2 (10 + 2 * Ls.length + 2 + (pfE F.length (iF F)).length) = (X, 10 + 2 * Ls.length + 2 + (pfE F.length (iF F)).length + (stB 1 4 F X).length) := by
    unfold rpX
    rw [carr_feq _ _ 1 4 j14 F2 F _ _ f2, show zer F.length = zer X.length by rw [fl, xl]]
    exact g1
  have gy : rpY E F.length F2 (10 + 2 * Ls.length + 2 + (pfE F.length (iF F)).length) = (Y, 10 + 2 * Ls.length + 2 + (pfE F.length (iF F)).length + (stB 1 4 F X).length + (stB 2 5 F Y).length) := by
    unfold rpY
    rw [gx, carr_feq _ _ 2 5 j25 F2 F _ _ f2, show zer F.length = zer Y.length by rw [fl, yl]]
    exact g2
  refine ⟨?_, by omega, by omega, ?_, ?_⟩
  · unfold lasR
    rw [e0, if_neg (by omega), if_neg (by omega), Int.toNat_natCast, e1]
    rfl
  · unfold rpC
    rw [hn, f1, if_pos fl2]
    dsimp only
    rw [gx, gy, pts_feq F2 F _ _ _ _ f2]
    exact hpb
  · unfold rpK
    rw [hn, f1]
    dsimp only
    rw [gy]
    dsimp only
    omega
theorem decB_back (Ls : List (List Pt)) (X Y : List Int) (B : List Value) (hc : chkE Ls = 0) (hX : stpE (fun p => p.1) Ls.flatten 0 = some X) (hY : stpE (fun p => p.2.1) Ls.flatten 0 = some Y) (hcub : Ls.flatten.any isCub = false) (hne : Ls ≠ []) : decB (spB Ls X Y ++ B) = (Ls, 0) := by
  obtain ⟨h1, h2, h3, h4, h5⟩ := spB_back Ls X Y B hc hX hY hcub hne
  have h6 := con_back Ls [] (nonempty_of hc)
  rw [List.nil_append, List.length_nil] at h6
  unfold decB decL
  rw [h1, if_pos rfl]
  dsimp only
  rw [h2, ends_len, h3, Nat.add_zero, h4]
  dsimp only
  rw [h5, if_pos (by rw [List.length_append]; omega), h6]
theorem spB_len (Ls : List (List Pt)) (X Y : List Int) (hc : chkE Ls = 0) (hX : stpE (fun p => p.1) Ls.flatten 0 = some X) (hY : stpE (fun p => p.2.1) Ls.flatten 0 = some Y) : 12 ≤ (spB Ls X Y).length ∧ (spB Ls X Y).length ≤ 90635 := by
  obtain ⟨c1, c2, c3⟩ := chk_zero hc
  have fl := fgs_len Ls.flatten X Y (stp_len _ _ _ hX) (stp_len _ _ _ hY)
  have hcnt : cntO Ls = Ls.flatten.length := (cntO_flat Ls).symm
  have h1 := pfE_len (fgsE Ls.flatten X Y).length ((fgsE Ls.flatten X Y).map (fun (f : Nat) => (f : Int)))
  have h2 := stB_len 1 4 (fgsE Ls.flatten X Y) X
  have h3 := stB_len 2 5 (fgsE Ls.flatten X Y) Y
  rw [List.length_map] at h1
  unfold spB
  simp only [List.length_append, be2_len, box_len, lastsE_len]
  omega
theorem decS_back (Ls : List (List Pt)) (X Y : List Int) (B : List Value) (hc : chkE Ls = 0) (hX : stpE (fun p => p.1) Ls.flatten 0 = some X) (hY : stpE (fun p => p.2.1) Ls.flatten 0 = some Y) (hcub : Ls.flatten.any isCub = false) (hne : Ls ≠ []) : decS (spB Ls X Y ++ B) = (Ls, 0) := by
  obtain ⟨l1, l2⟩ := spB_len Ls X Y hc hX hY
  unfold decS
  rw [if_neg (by intro e; have := congrArg List.length e; rw [List.length_append, List.length_nil] at this; omega)]
  rw [List.take_append, List.take_of_length_le l2]
  exact decB_back Ls X Y _ hc hX hY hcub hne
end Go.Proofs.Ytelhckckcilpaaa

namespace Go.Proofs.Ytelhckckcilpaaa
open Go Go.RowKit
set_option linter.unusedVariables false
set_option linter.unusedSimpArgs false

theorem ub1_take (bs : List Value) (M k : Nat) (h : k + 1 ≤ M) : ub1 (bs.take M) k = ub1 bs k := by
  unfold ub1 rsn
  rw [List.length_take]
  by_cases hk : k + 1 ≤ bs.length
  · rw [if_pos (by omega), if_pos hk, byteAt_take (by omega)]
  · rw [if_neg (by omega), if_neg hk]
theorem ub2_take (bs : List Value) (M k : Nat) (h : k + 2 ≤ M) : ub2 (bs.take M) k = ub2 bs k := by
  unfold ub2 rsn
  rw [List.length_take]
  by_cases hk : k + 2 ≤ bs.length
  · rw [if_pos (by omega), if_pos hk, rd2_take (by omega)]
  · rw [if_neg (by omega), if_neg hk]
theorem ib2_take (bs : List Value) (M k : Nat) (h : k + 2 ≤ M) : ib2 (bs.take M) k = ib2 bs k := by unfold ib2; rw [ub2_take bs M k h]
theorem ub2_short (bs : List Value) (k : Nat) (h : bs.length < k + 2) : ub2 bs k = 0 := by unfold ub2 rsn; rw [if_neg (by omega)]
theorem flg_mono (bs : List Value) (n : Nat) : ∀ (j k : Nat) (acc : List Nat), k ≤ (flgC bs n j k acc).2 ∧ (flgC bs n j k acc).2 ≤ k + 2 * j
  | 0, k, acc => by simp [flgC]
  | j + 1, k, acc => by
    by_cases h : n ≤ acc.length
    · rw [flgC_done h]; dsimp only; omega
    · cases hb : bt (ub1 bs k) 3
      · rw [flgC_one h hb]
        have := flg_mono bs n j (k + 1) (acc ++ [ub1 bs k])
        omega
      · rw [flgC_more h hb]
        have := flg_mono bs n j (k + 2) (acc ++ List.replicate (1 + ub1 bs (k + 1)) (ub1 bs k))
        omega
theorem flg_take (bs : List Value) (n M : Nat) : ∀ (j k : Nat) (acc : List Nat), (flgC (bs.take M) n j k acc).2 ≤ M → flgC (bs.take M) n j k acc = flgC bs n j k acc
  | 0, k, acc, _ => rfl
  | j + 1, k, acc, h => by
    by_cases hn : n ≤ acc.length
    · rw [flgC_done hn, flgC_done hn]
    · cases hb : bt (ub1 (bs.take M) k) 3
      · rw [flgC_one hn hb] at h ⊢
        have hm := (flg_mono (bs.take M) n j (k + 1) (acc ++ [ub1 (bs.take M) k])).1
        have e := ub1_take bs M k (by omega)
        rw [e] at hb
        rw [flg_take bs n M j _ _ h, flgC_one hn hb, e]
      · rw [flgC_more hn hb] at h ⊢
        have hm := (flg_mono (bs.take M) n j (k + 2) (acc ++ List.replicate (1 + ub1 (bs.take M) (k + 1)) (ub1 (bs.take M) k))).1
        have e := ub1_take bs M k (by omega)
        have e2 := ub1_take bs M (k + 1) (by omega)
        rw [e] at hb
        rw [flg_take bs n M j _ _ h, flgC_more hn hb, e, e2]
theorem step_mono (bs : List Value) (j1 j2 f : Nat) (x : Int) (k : Nat) : k ≤ (stepC (rf1 bs) (rf2 bs) j1 j2 f x k).2 ∧ (stepC (rf1 bs) (rf2 bs) j1 j2 f x k).2 ≤ k + 2 := by
  unfold stepC rf1 rf2
  split
  · split <;> (dsimp only; omega)
  · split <;> (dsimp only; omega)
theorem carr_mono (bs : List Value) (j1 j2 : Nat) : ∀ (F : List Nat) (X : List Int) (k : Nat), k ≤ (carr (rf1 bs) (rf2 bs) j1 j2 F X k).2 ∧ (carr (rf1 bs) (rf2 bs) j1 j2 F X k).2 ≤ k + 2 * F.length
  | [], X, k => by simp [carr]
  | f :: F, [], k => by simp [carr]
  | f :: F, x :: X, k => by
    have h1 := step_mono bs j1 j2 f x k
    have h2 := carr_mono bs j1 j2 F X (stepC (rf1 bs) (rf2 bs) j1 j2 f x k).2
    rw [carr, List.length_cons]
    dsimp only
    omega
theorem step_take (bs : List Value) (M j1 j2 f : Nat) (x : Int) (k : Nat) (h : (stepC (rf1 (bs.take M)) (rf2 (bs.take M)) j1 j2 f x k).2 ≤ M) : stepC (rf1 (bs.take M)) (rf2 (bs.take M)) j1 j2 f x k = stepC (rf1 bs) (rf2 bs) j1 j2 f x k := by
  unfold stepC rf1 rf2 at h ⊢
  cases h1 : bt f j1
  · cases h2 : bt f j2
    · rw [h1, h2] at h
      simp only [Bool.false_eq_true, if_false] at h ⊢
      rw [ib2_take bs M k h]
    · simp only [Bool.false_eq_true, if_false, if_true]
  · cases h2 : bt f j2
    · rw [h1, h2] at h
      simp only [Bool.false_eq_true, if_false, if_true] at h ⊢
      rw [ub1_take bs M k h]
    · rw [h1, h2] at h
      simp only [if_true] at h ⊢
      rw [ub1_take bs M k h]
theorem carr_cons {σ : Type} (f1 f2 : σ → Int → Int × σ) (j1 j2 f : Nat) (F : List Nat) (x : Int) (X : List Int) (s : σ) : carr f1 f2 j1 j2 (f :: F) (x :: X) s = ((stepC f1 f2 j1 j2 f x s).1 :: (carr f1 f2 j1 j2 F X (stepC f1 f2 j1 j2 f x s).2).1, (carr f1 f2 j1 j2 F X (stepC f1 f2 j1 j2 f x s).2).2) := rfl
/-- Two carriers that agree as long as the place is at most M, and never go back. -/
theorem carr_same (f1 f2 g1 g2 : Nat → Int → Int × Nat) (M j1 j2 : Nat) (hm : ∀ (F : List Nat) (X : List Int) (k : Nat), k ≤ (carr f1 f2 j1 j2 F X k).2) (he : ∀ (f : Nat) (x : Int) (k : Nat), (stepC f1 f2 j1 j2 f x k).2 ≤ M → stepC f1 f2 j1 j2 f x k = stepC g1 g2 j1 j2 f x k) (F : List Nat) : ∀ (X : List Int) (k : Nat), (carr f1 f2 j1 j2 F X k).2 ≤ M → carr f1 f2 j1 j2 F X k = carr g1 g2 j1 j2 F X k := by
  induction F with
  | nil => intro X k _; rfl
  | cons f F ih =>
    intro X k h
    cases X with
    | nil => rfl
    | cons x X =>
      rw [carr_cons] at h
      dsimp only at h
      have h2 := hm F X (stepC f1 f2 j1 j2 f x k).2
      have e := he f x k (by omega)
      have e2 := ih X _ h
      rw [carr_cons, carr_cons, ← e, e2]
theorem carr_take (bs : List Value) (M j1 j2 : Nat) (F : List Nat) (X : List Int) (k : Nat) (h : (carr (rf1 (bs.take M)) (rf2 (bs.take M)) j1 j2 F X k).2 ≤ M) : carr (rf1 (bs.take M)) (rf2 (bs.take M)) j1 j2 F X k = carr (rf1 bs) (rf2 bs) j1 j2 F X k :=
  carr_same _ _ _ _ M j1 j2 (fun F X k => (carr_mono (bs.take M) j1 j2 F X k).1) (fun f x k h => step_take bs M j1 j2 f x k h) F X k h
theorem rpK_ge (bs : List Value) (n k : Nat) : k ≤ rpK bs n k ∧ (flgC bs n n k []).2 ≤ rpK bs n k := by
  unfold rpK rpY
  have h1 := flg_mono bs n n k []
  have h2 := carr_mono bs 1 4 (flgC bs n n k []).1 (zer n) (flgC bs n n k []).2
  have h3 := carr_mono bs 2 5 (flgC bs n n k []).1 (zer n) (rpX bs n (flgC bs n n k []).1 (flgC bs n n k []).2).2
  unfold rpX at h3 ⊢
  omega
theorem rp_take (bs : List Value) (M n k : Nat) (h : rpK (bs.take M) n k ≤ M) : rpC (bs.take M) n k = rpC bs n k ∧ rpK (bs.take M) n k = rpK bs n k := by
  have h1 := rpK_ge (bs.take M) n k
  have e1 := flg_take bs n M n k [] (by omega)
  unfold rpK rpC at *
  rw [e1] at h h1 ⊢
  have h3 := carr_mono (bs.take M) 2 5 (flgC bs n n k []).1 (zer n) (rpX (bs.take M) n (flgC bs n n k []).1 (flgC bs n n k []).2).2
  unfold rpY at h h1 ⊢
  have e2 : rpX (bs.take M) n (flgC bs n n k []).1 (flgC bs n n k []).2 = rpX bs n (flgC bs n n k []).1 (flgC bs n n k []).2 := by
    unfold rpX at h h3 ⊢
    exact carr_take bs M 1 4 _ _ _ (by omega)
  rw [e2] at h h3 ⊢
  have e3 := carr_take bs M 2 5 (flgC bs n n k []).1 (zer n) (rpX bs n (flgC bs n n k []).1 (flgC bs n n k []).2).2 h
  rw [e3]
  exact ⟨rfl, rfl⟩
theorem las_take (bs : List Value) (M : Nat) : ∀ (j k : Nat) (acc : List Nat), k + 2 * j ≤ M → lasC (bs.take M) j k acc = lasC bs j k acc
  | 0, k, acc, _ => rfl
  | j + 1, k, acc, h => by
    have e := ub2_take bs M k (by omega)
    rw [lasC, lasC, e]
    split
    · rfl
    · split
      · rfl
      · exact las_take bs M j (k + 2) _ (by omega)
theorem las_cut (bs : List Value) (M : Nat) : ∀ (j k : Nat) (acc L : List Nat), lasC bs j k acc = (L, 0) → lasC (bs.take M) j k acc = ([], 110) ∨ ∃ L2, lasC (bs.take M) j k acc = (L2, 0) ∧ L2.length = acc.length + j
  | 0, k, acc, L, _ => .inr ⟨acc, rfl, rfl⟩
  | j + 1, k, acc, L, h => by
    rw [lasC] at h ⊢
    by_cases hk : k + 2 ≤ M
    · rw [ub2_take bs M k hk]
      split at h
      · simp at h
      · split at h
        · simp at h
        · rename_i h1 h2
          rw [if_neg h1, if_neg h2]
          rcases las_cut bs M j (k + 2) _ L h with h3 | ⟨L2, h3, h4⟩
          · exact .inl h3
          · exact .inr ⟨L2, h3, by rw [h4, List.length_append, List.length_singleton]; omega⟩
    · have e : ub2 (bs.take M) k = 0 := ub2_short _ _ (by rw [List.length_take]; omega)
      rw [e, if_neg (by omega)]
      by_cases hc : 0 < cntL acc
      · rw [if_pos hc]; exact .inl rfl
      · rw [if_neg hc]
        split at h
        · simp at h
        · split at h
          · simp at h
          · have key : ∀ (j k : Nat) (acc : List Nat), M < k + 2 → lasC (bs.take M) j k acc = ([], 110) ∨ ∃ L2, lasC (bs.take M) j k acc = (L2, 0) ∧ L2.length = acc.length + j := by
              intro j
              induction j with
              | zero => intro k acc _; exact .inr ⟨acc, rfl, rfl⟩
              | succ j ih =>
                intro k acc hk2
                have e2 : ub2 (bs.take M) k = 0 := ub2_short _ _ (by rw [List.length_take]; omega)
                rw [lasC, e2, if_neg (by omega)]
                split
                · exact .inl rfl
                · rcases ih (k + 2) (acc ++ [0]) (by omega) with h3 | ⟨L2, h3, h4⟩
                  · exact .inl h3
                  · exact .inr ⟨L2, h3, by rw [h4, List.length_append, List.length_singleton]; omega⟩
            rcases key j (k + 2) (acc ++ [0]) (by omega) with h3 | ⟨L2, h3, h4⟩
            · exact .inl h3
            · exact .inr ⟨L2, h3, by rw [h4, List.length_append, List.length_singleton]; omega⟩
theorem dec_beyond (bs : List Value) (L : List Nat) (h : bs.length < 12 + 2 * L.length) : decL bs L = ([], 110) := by
  unfold decL
  have h1 := (rpK_ge bs (cntL L) (10 + 2 * L.length + 2 + ub2 bs (10 + 2 * L.length))).1
  split
  · rfl
  · rw [if_neg (by omega)]
/-- No beginning of an outline's bytes is a glyph. -/
theorem spB_cut (Ls : List (List Pt)) (X Y : List Int) (M : Nat) (hc : chkE Ls = 0) (hX : stpE (fun p => p.1) Ls.flatten 0 = some X) (hY : stpE (fun p => p.2.1) Ls.flatten 0 = some Y) (hcub : Ls.flatten.any isCub = false) (hne : Ls ≠ []) (hM : 1 ≤ M) (hMl : M < (spB Ls X Y).length) : decS ((spB Ls X Y).take M) = ([], 110) := by
  obtain ⟨h1, h2, h3, h4, h5⟩ := spB_back Ls X Y [] hc hX hY hcub hne
  rw [List.append_nil] at h1 h3 h4 h5
  obtain ⟨l1, l2⟩ := spB_len Ls X Y hc hX hY
  obtain ⟨c1, c2, c3⟩ := chk_zero hc
  generalize spB Ls X Y = E at *
  have htl : (E.take M).length = M := by rw [List.length_take]; omega
  unfold decS
  rw [if_neg (by intro e; rw [e] at htl; simp at htl; omega), List.take_of_length_le (by omega)]
  unfold decB
  by_cases hm2 : 2 ≤ M
  · have e0 := ib2_take E M 0 (by omega)
    have hl0 := h1
    unfold lasR at hl0 ⊢
    rw [e0]
    split at hl0
    · simp at hl0
    · split at hl0
      · simp at hl0
      · rename_i g1 g2
        rw [if_neg g1, if_neg g2]
        have hlen : (endsOf 0 Ls).length = (ib2 E 0).toNat := by
          rcases las_cut E E.length _ _ _ _ hl0 with h6 | ⟨L2, h6, h7⟩
          · rw [List.take_of_length_le (Nat.le_refl _), hl0] at h6; simp at h6
          · rw [List.take_of_length_le (Nat.le_refl _), hl0] at h6
            injection h6 with h6 _
            rw [h6, h7]; simp
        rw [ends_len] at hlen
        rcases las_cut E M _ _ _ _ hl0 with h6 | ⟨L2, h6, h7⟩
        · rw [h6]; rfl
        · rw [h6, if_pos rfl]
          dsimp only
          rw [List.length_nil, Nat.zero_add, ← hlen] at h7
          by_cases hb : M < 12 + 2 * Ls.length
          · exact dec_beyond _ _ (by rw [htl, h7]; exact hb)
          · have hL2 : L2 = endsOf 0 Ls := by
              rw [las_take E M _ _ _ (by rw [← hlen]; omega), hl0] at h6
              injection h6 with h6 _
              exact h6.symm
            subst hL2
            unfold decL
            rw [ends_len, ub2_take E M _ (by omega), h2, h3, Nat.add_zero]
            have hk : ¬ rpK (E.take M) (cntO Ls) (10 + 2 * Ls.length + 2) ≤ M := fun hle => by
              have := (rp_take E M _ _ hle).2
              rw [h5] at this
              omega
            split
            · rfl
            · rw [htl, if_neg hk]
  · have hz : ib2 (E.take M) 0 = 0 := by unfold ib2; rw [ub2_short _ _ (by rw [htl]; omega)]; rfl
    have hlr : lasR (E.take M) = ([], 0) := by unfold lasR; rw [hz]; rfl
    rw [hlr, if_pos rfl]
    exact dec_beyond _ _ (by rw [htl, List.length_nil]; omega)
theorem las_ris (bs : List Value) : ∀ (j k : Nat) (acc L : List Nat), RisL acc → lasC bs j k acc = (L, 0) → RisL L ∧ L.length = acc.length + j
  | 0, k, acc, L, h, hl => by
    rw [lasC] at hl
    injection hl with h1 _
    subst h1
    exact ⟨h, rfl⟩
  | j + 1, k, acc, L, h, hl => by
    rw [lasC] at hl
    split at hl
    · simp at hl
    · split at hl
      · simp at hl
      · rename_i h1 h2
        obtain ⟨h3, h4⟩ := las_ris bs j (k + 2) _ L (h.snoc (by omega) h2) hl
        exact ⟨h3, by rw [h4, List.length_append, List.length_singleton]; omega⟩
theorem lasR_ris {bs : List Value} (h : (lasR bs).2 = 0) : RisL (lasR bs).1 ∧ (lasR bs).1.length ≤ 256 := by
  have e : lasR bs = ((lasR bs).1, 0) := by rw [← h]
  generalize (lasR bs).1 = L at *
  unfold lasR at e
  split at e
  · simp at e
  · split at e
    · simp at e
    · obtain ⟨h3, h4⟩ := las_ris bs _ _ _ L ⟨fun x hx => by simp at hx, fun i j x y _ hx => by simp at hx⟩ e
      exact ⟨h3, by rw [h4, List.length_nil]; omega⟩
theorem con_len : ∀ (P : List Pt) (ls : List Nat) (first : Nat), (conC P ls first).length = ls.length
  | P, [], first => rfl
  | P, l :: ls, first => by rw [conC, List.length_cons, con_len P ls, List.length_cons]
theorem con_le : ∀ (P : List Pt) (ls : List Nat) (first : Nat), ∀ L ∈ conC P ls first, L.length ≤ P.length
  | P, [], first => by intro L hL; simp [conC] at hL
  | P, l :: ls, first => by
    intro L hL
    rw [conC] at hL
    rcases List.mem_cons.1 hL with rfl | hL
    · rw [List.length_take, List.length_drop]; omega
    · exact con_le P ls (l + 1) L hL
/-- What follows the longest glyph need not be. -/
theorem decB_take (E : List Value) (h8 : Bytes8 E) : decB (E.take 90635) = decB E := by
  by_cases hE : E.length ≤ 90635
  · rw [List.take_of_length_le hE]
  · have htl : (E.take 90635).length = 90635 := by rw [List.length_take]; omega
    have e0 := ib2_take E 90635 0 (by omega)
    have el : lasR (E.take 90635) = lasR E := by
      unfold lasR
      rw [e0]
      split
      · rfl
      · split
        · rfl
        · exact las_take E 90635 _ _ _ (by omega)
    unfold decB
    rw [el]
    by_cases hz : (lasR E).2 = 0
    · rw [if_pos hz, if_pos hz]
      obtain ⟨r1, r2⟩ := lasR_ris hz
      have r3 := cnt_le r1
      unfold decL
      rw [ub2_take E 90635 _ (by omega)]
      have hu : ub2 E (10 + 2 * (lasR E).1.length) < 65536 := u2_lt h8 _
      generalize hk : 10 + 2 * (lasR E).1.length + 2 + ub2 E (10 + 2 * (lasR E).1.length) = k
      have hkk : k ≤ 66059 := by omega
      generalize cntL (lasR E).1 = n at *
      have m1 := flg_mono (E.take 90635) n n k []
      have e1 := flg_take E n 90635 n k [] (by omega)
      by_cases hl : (flgC E n n k []).1.length = n
      · have hK : rpK (E.take 90635) n k ≤ 90635 := by
          unfold rpK rpY rpX
          rw [e1] at m1 ⊢
          have m2 := carr_mono (E.take 90635) 1 4 (flgC E n n k []).1 (zer n) (flgC E n n k []).2
          have m3 := carr_mono (E.take 90635) 2 5 (flgC E n n k []).1 (zer n) (carr (rf1 (E.take 90635)) (rf2 (E.take 90635)) 1 4 (flgC E n n k []).1 (zer n) (flgC E n n k []).2).2
          omega
        obtain ⟨e2, e3⟩ := rp_take E 90635 n k hK
        rw [e2]
        split
        · rfl
        · rw [htl, if_pos hK, if_pos (by rw [← e3]; omega)]
      · have n1 : rpC (E.take 90635) n k = none := by unfold rpC; rw [e1, if_neg hl]
        have n2 : rpC E n k = none := by unfold rpC; rw [if_neg hl]
        rw [n1, n2]
    · rw [if_neg hz, if_neg hz]
end Go.Proofs.Ytelhckckcilpaaa

namespace Go.Proofs.Ytelhckckcilpaaa
open Go Go.RowKit

def eq3 (p q : Pt) : Bool := p.1 == q.1 && p.2.1 == q.2.1 && p.2.2 == q.2.2
theorem eq3_iff {p q : Pt} : eq3 p q = true ↔ p = q := by
  obtain ⟨x, y, z⟩ := p
  obtain ⟨x', y', z'⟩ := q
  simp [eq3, and_assoc]
theorem neP_run (x y z x' y' z' : Int) (r : Bool) (hr : eq3 (x, y, z) (x', y', z') = r) (w : World) : (binOp .neq 57 (.agg #[.int .i64 x, .int .i64 y, .int .i64 z]) (.agg #[.int .i64 x', .int .i64 y', .int .i64 z'])).run Try.prog w = .ok (.bool (!r)) w := by
  subst hr
  have hS : Try.prog.underlying 57 = some (.struct (Try.prog.fieldsOf 57)) := by kernel_rfl
  have hp : Try.prog.stoodInHeld 57 = false := by kernel_rfl
  have u3 := Try.underlying3
  have a3 := Try.isAgg3
  have z3 := Try.sizeOf3
  rw [run_neq_struct, show (10000 : Nat) = 9999 + 1 from rfl, run_equalIn_agg w 9999 57 _ _ hS hp]
  simp only [Program.fieldsOf, Try.underlying57]
  unfold eq3
  go_simp
  by_cases h1 : x = x' <;> by_cases h2 : y = y' <;> by_cases h3 : z = z' <;> simp [h1, h2, h3]
theorem eqP_run (x y z x' y' z' : Int) (r : Bool) (hr : eq3 (x, y, z) (x', y', z') = r) (w : World) : (binOp .eql 57 (.agg #[.int .i64 x, .int .i64 y, .int .i64 z]) (.agg #[.int .i64 x', .int .i64 y', .int .i64 z'])).run Try.prog w = .ok (.bool r) w := by
  subst hr
  have hS : Try.prog.underlying 57 = some (.struct (Try.prog.fieldsOf 57)) := by kernel_rfl
  have hp : Try.prog.stoodInHeld 57 = false := by kernel_rfl
  have u3 := Try.underlying3
  have a3 := Try.isAgg3
  have z3 := Try.sizeOf3
  rw [run_eql_struct, show (10000 : Nat) = 9999 + 1 from rfl, run_equalIn_agg w 9999 57 _ _ hS hp]
  simp only [Program.fieldsOf, Try.underlying57]
  unfold eq3
  go_simp
  by_cases h1 : x = x' <;> by_cases h2 : y = y' <;> by_cases h3 : z = z' <;> simp [h1, h2, h3]
theorem neP_guard (x y z x' y' z' : Int) (a b : Operand) (w : World) : (eqGuard .neq 57 a b (.agg #[.int .i64 x, .int .i64 y, .int .i64 z]) (.agg #[.int .i64 x', .int .i64 y', .int .i64 z'])).run Try.prog w = .ok () w :=
  run_eqGuard_agg w .neq 57 a b _ _ (by kernel_rfl)
theorem eqP_guard (x y z x' y' z' : Int) (a b : Operand) (w : World) : (eqGuard .eql 57 a b (.agg #[.int .i64 x, .int .i64 y, .int .i64 z]) (.agg #[.int .i64 x', .int .i64 y', .int .i64 z'])).run Try.prog w = .ok () w :=
  run_eqGuard_agg w .eql 57 a b _ _ (by kernel_rfl)
theorem same_next {α : Type} {a b : List α} {k : Nat} {x : α} (h : ∀ j, j < k → a[j]? = b[j]?) (ha : a[k]? = some x) (hb : b[k]? = some x) : ∀ j, j < k + 1 → a[j]? = b[j]? := by
  intro j hj
  rcases Nat.lt_or_ge j k with h1 | h1
  · exact h j h1
  · obtain rfl : j = k := by omega
    rw [ha, hb]
theorem same_done {α : Type} {a b : List α} {k : Nat} (hk : k = a.length) (hk2 : k = b.length) (h : ∀ j, j < k → a[j]? = b[j]?) : a = b := by
  refine List.ext_getElem? fun j => ?_
  rcases Nat.lt_or_ge j k with h1 | h1
  · exact h j h1
  · rw [List.getElem?_eq_none (by omega), List.getElem?_eq_none (by omega)]
theorem same_not {α : Type} [DecidableEq α] {a b : List α} {k : Nat} {x y : α} (ha : a[k]? = some x) (hb : b[k]? = some y) (h : x ≠ y) : decide (a = b) = false := by
  rw [decide_eq_false_iff_not]
  rintro rfl
  rw [ha] at hb
  exact h (Option.some.inj hb)
theorem same_len {α : Type} [DecidableEq α] {a b : List α} (h : a.length ≠ b.length) : decide (a = b) = false := by
  rw [decide_eq_false_iff_not]
  rintro rfl
  exact h rfl

set_option maxRecDepth 100000 in
set_option maxHeartbeats 4000000 in
theorem rsame_any (B : Nat) (A A2 : Option Addr) (c c2 : Nat) (a b : List (List Pt)) (w : World) (hB : B ≤ w.heap.size) (ha : OutAt w B A a) (hb : OutAt w B A2 b) (sa : Sm a) (sb : Sm b) (r : Bool) (hr : decide (a = b) = r) :
    Calls Try.prog 10 #[.slice A a.length c, .slice A2 b.length c2] w fun e w' => e = .returned (.bool r) ∧ Below w.heap.size w w' := by
  have hn := sa.1
  have HA := Lib.hid ha
  have HB := Lib.hid hb
  have SA := Lib.hid sa.2
  have SB := Lib.hid sb.2
  have HR := Lib.hid hr
  obtain ⟨n, hnn⟩ : ∃ n, n = a.length := ⟨_, rfl⟩
  obtain ⟨n2, hnn2⟩ : ∃ n2, n2 = b.length := ⟨_, rfl⟩
  rw [← hnn] at hn ⊢
  rw [← hnn2]
  have HN := Lib.hid hnn
  have HN2 := Lib.hid hnn2
  clear ha hb sa sb hr hnn hnn2
  by_cases hne : n = n2
  · subst hne
    have d0 : ((n : Int) != (n : Int)) = false := by simp
    go_enter Try.func10, Try.ntmps10
    go_wp2
    go_loopw [5] (fun i wr => ∃ k : Nat, k ≤ n ∧ i = .int .i64 k ∧ Hid (∀ j, j < k → a[j]? = b[j]?) ∧ Below w.heap.size w wr) (fun i _ => n - (intOf i).toNat)
    case atStart => exact ⟨0, Nat.zero_le _, rfl, Lib.hid (fun j h => absurd h (Nat.not_lt_zero _)), Below.refl _ _⟩
    case round =>
      obtain ⟨k, hk, rfl, HK, hb⟩ := hrel
      by_cases hlt : k < n
      · have d1 : decide ((k : Int) < (n : Int)) = true := by simp; omega
        obtain ⟨L, hL⟩ := at_some (L := a) (k := k) (by rw [← HN.out]; exact hlt)
        obtain ⟨M, hM⟩ := at_some (L := b) (k := k) (by rw [← HN2.out]; exact hlt)
        obtain ⟨p, o, Ai, ci, rfl, hpl, c0, hE⟩ := HA.out.at' k L hL
        obtain ⟨q, o', Aj, cj, rfl, hql, c1, hF⟩ := HB.out.at' k M hM
        have hl : L.length ≤ 100000 := SA.out L (List.mem_of_getElem? hL)
        have hl2 : M.length ≤ 100000 := SB.out M (List.mem_of_getElem? hM)
        have HC : ∀ W, Below w.heap.size w W → W.cell? ⟨p, o + k, none⟩ = some (.slice Ai L.length ci) ∧ W.cell? ⟨q, o' + k, none⟩ = some (.slice Aj M.length cj) ∧ p < W.heap.size ∧ q < W.heap.size := fun W hW => ⟨(hW.cell (p := ⟨p, o + k, none⟩) (Nat.lt_of_lt_of_le hpl hB)).trans c0, (hW.cell (p := ⟨q, o' + k, none⟩) (Nat.lt_of_lt_of_le hql hB)).trans c1, by have := hW.size; omega, by have := hW.size; omega⟩
        obtain ⟨f0, f1, f2, f3⟩ := HC wr hb
        have HE := Lib.hid hE
        have HF := Lib.hid hF
        have HL := Lib.hid hL
        have HM := Lib.hid hM
        obtain ⟨m, hm⟩ : ∃ m, m = L.length := ⟨_, rfl⟩
        obtain ⟨m2, hm2⟩ : ∃ m2, m2 = M.length := ⟨_, rfl⟩
        rw [← hm] at hl f0 HC
        rw [← hm2] at hl2 f1 HC
        have HLM := Lib.hid hm
        have HMM := Lib.hid hm2
        clear hE hF hL hM hm hm2 c0 c1
        by_cases hmm : m = m2
        · subst hmm
          have e0 : ((m : Int) != (m : Int)) = false := by simp
          go_wp2
          have hI : Below w.heap.size w wr.drew := hb.drew
          refine wp_region_chain (fun W => Below w.heap.size w W) [(0, false), (1, false), (2, false), (3, false), (4, false), (5, false), (6, false), (7, false), (8, false), (9, false), (10, false)] (by kernel_rfl) (by kernel_rfl) hI ?_
          repeat (first
            | (refine ChainL.skip (o := ?_) ?_ ?_ ?_; rotate_left; (focus (first | (simp only [List.getElem?_toArray, List.getElem?_cons_succ, List.getElem?_cons_zero]; with_reducible rfl) | (simp only [List.getElem?_toArray, List.getElem?_cons_zero]; with_reducible rfl))); (focus rfl); simp only [Act.put, List.setIfInBounds_toArray, List.set_cons_zero, List.set_cons_succ])
            | (refine ChainL.val (o := ?_) (v := ?_) ?_ ?_ ?_ ?_ ?_; rotate_left 2; (focus (first | (simp only [List.getElem?_toArray, List.getElem?_cons_succ, List.getElem?_cons_zero]; with_reducible rfl) | (simp only [List.getElem?_toArray, List.getElem?_cons_zero]; with_reducible rfl))); (focus (intro _ _ h; cases h)); (focus rfl); (focus (intro w' hJ; obtain ⟨y1, y2, y3, y4⟩ := HC _ hJ; go_simp <;> with_reducible rfl)); simp only [Act.put, List.setIfInBounds_toArray, List.set_cons_zero, List.set_cons_succ]))
          refine ChainL.nil ?_
          clear f0 f1 f2 f3
          go_wp2
          go_loopw [6] (fun i wr => ∃ k' : Nat, k' ≤ m ∧ i = .int .i64 k' ∧ Hid (∀ j, j < k' → L[j]? = M[j]?) ∧ Below w.heap.size w wr) (fun i _ => m - (intOf i).toNat)
          case atStart => exact ⟨0, Nat.zero_le _, rfl, Lib.hid (fun j h => absurd h (Nat.not_lt_zero _)), hI⟩
          case round =>
            clear hI hb
            obtain ⟨k', hk', rfl, HK', hb⟩ := hrel
            obtain ⟨f0, f1, f2, f3⟩ := HC _ hb
            by_cases hlt' : k' < m
            · have d2 : decide ((k' : Int) < (m : Int)) = true := by simp; omega
              obtain ⟨⟨x, y, z⟩, hp⟩ := at_some (L := L) (k := k') (by rw [← HLM.out]; exact hlt')
              obtain ⟨⟨x', y', z'⟩, hq⟩ := at_some (L := M) (k := k') (by rw [← HMM.out]; exact hlt')
              obtain ⟨s, u, rfl, hs, c0, c1, c2⟩ := lists_pt HE.out hp
              obtain ⟨s', u', rfl, hs', c3, c4, c5⟩ := lists_pt HF.out hq
              simp only at c0 c1 c2 c3 c4 c5
              have HD : ∀ W, Below w.heap.size w W → (W.cell? ⟨s, u + k' * 3, none⟩ = some (.int .i64 x) ∧ W.cell? ⟨s, u + k' * 3 + 1, none⟩ = some (.int .i64 y) ∧ W.cell? ⟨s, u + k' * 3 + 2, none⟩ = some (.int .i64 z) ∧ s < W.heap.size) ∧ W.cell? ⟨s', u' + k' * 3, none⟩ = some (.int .i64 x') ∧ W.cell? ⟨s', u' + k' * 3 + 1, none⟩ = some (.int .i64 y') ∧ W.cell? ⟨s', u' + k' * 3 + 2, none⟩ = some (.int .i64 z') ∧ s' < W.heap.size :=
                fun W hW => ⟨⟨(hW.cell (p := ⟨s, u + k' * 3, none⟩) (Nat.lt_of_lt_of_le hs hB)).trans c0, (hW.cell (p := ⟨s, u + k' * 3 + 1, none⟩) (Nat.lt_of_lt_of_le hs hB)).trans c1, (hW.cell (p := ⟨s, u + k' * 3 + 2, none⟩) (Nat.lt_of_lt_of_le hs hB)).trans c2, by have := hW.size; omega⟩, (hW.cell (p := ⟨s', u' + k' * 3, none⟩) (Nat.lt_of_lt_of_le hs' hB)).trans c3, (hW.cell (p := ⟨s', u' + k' * 3 + 1, none⟩) (Nat.lt_of_lt_of_le hs' hB)).trans c4, (hW.cell (p := ⟨s', u' + k' * 3 + 2, none⟩) (Nat.lt_of_lt_of_le hs' hB)).trans c5, by have := hW.size; omega⟩
              have hgd := neP_guard x y z x' y' z'
              clear c0 c1 c2 c3 c4 c5
              cases he : eq3 (x, y, z) (x', y', z')
              · have hne := neP_run x y z x' y' z' _ he
                have HF := Lib.hid (show r = false by rw [← HR.out]; exact same_not HL.out HM.out (of_decide_eq_false (same_not hp hq (fun e => by rw [eq3_iff.2 e] at he; cases he))))
                clear hp hq he
                go_wp2
                have hI : Below w.heap.size w wr.drew := hb.drew
                refine wp_region_chain (fun W => Below w.heap.size w W) [(0, false), (1, false), (2, false), (3, false), (4, false), (5, false), (6, false), (7, false), (8, false), (9, false), (10, false), (11, false), (12, false), (13, false), (14, false)] (by kernel_rfl) (by kernel_rfl) hI ?_
                repeat (first
                  | (refine ChainL.skip (o := ?_) ?_ ?_ ?_; rotate_left; (focus (first | (simp only [List.getElem?_toArray, List.getElem?_cons_succ, List.getElem?_cons_zero]; with_reducible rfl) | (simp only [List.getElem?_toArray, List.getElem?_cons_zero]; with_reducible rfl))); (focus rfl); simp only [Act.put, List.setIfInBounds_toArray, List.set_cons_zero, List.set_cons_succ])
                  | (refine ChainL.val (o := ?_) (v := ?_) ?_ ?_ ?_ ?_ ?_; rotate_left 2; (focus (first | (simp only [List.getElem?_toArray, List.getElem?_cons_succ, List.getElem?_cons_zero]; with_reducible rfl) | (simp only [List.getElem?_toArray, List.getElem?_cons_zero]; with_reducible rfl))); (focus (intro _ _ h; cases h)); (focus rfl); (focus (intro w' hJ; obtain ⟨y1, y2, y3, y4⟩ := HC _ hJ; obtain ⟨⟨z1, z2, z3, z4⟩, z5, z6, z7, z8⟩ := HD _ hJ; go_simp <;> with_reducible rfl)); simp only [Act.put, List.setIfInBounds_toArray, List.set_cons_zero, List.set_cons_succ]))
                refine ChainL.nil ?_
                go_wp2
                go_ret
                exact ⟨by rw [HF.out]; rfl, hI⟩
              · have hne := neP_run x y z x' y' z' _ he
                have HS := Lib.hid (same_next HK'.out hp (by rw [hq, ← eq3_iff.1 he]))
                clear hp hq he
                go_wp2
                have hI : Below w.heap.size w wr.drew := hb.drew
                refine wp_region_chain (fun W => Below w.heap.size w W) [(0, false), (1, false), (2, false), (3, false), (4, false), (5, false), (6, false), (7, false), (8, false), (9, false), (10, false), (11, false), (12, false), (13, false), (14, false)] (by kernel_rfl) (by kernel_rfl) hI ?_
                repeat (first
                  | (refine ChainL.skip (o := ?_) ?_ ?_ ?_; rotate_left; (focus (first | (simp only [List.getElem?_toArray, List.getElem?_cons_succ, List.getElem?_cons_zero]; with_reducible rfl) | (simp only [List.getElem?_toArray, List.getElem?_cons_zero]; with_reducible rfl))); (focus rfl); simp only [Act.put, List.setIfInBounds_toArray, List.set_cons_zero, List.set_cons_succ])
                  | (refine ChainL.val (o := ?_) (v := ?_) ?_ ?_ ?_ ?_ ?_; rotate_left 2; (focus (first | (simp only [List.getElem?_toArray, List.getElem?_cons_succ, List.getElem?_cons_zero]; with_reducible rfl) | (simp only [List.getElem?_toArray, List.getElem?_cons_zero]; with_reducible rfl))); (focus (intro _ _ h; cases h)); (focus rfl); (focus (intro w' hJ; obtain ⟨y1, y2, y3, y4⟩ := HC _ hJ; obtain ⟨⟨z1, z2, z3, z4⟩, z5, z6, z7, z8⟩ := HD _ hJ; go_simp <;> with_reducible rfl)); simp only [Act.put, List.setIfInBounds_toArray, List.set_cons_zero, List.set_cons_succ]))
                refine ChainL.nil ?_
                go_wp2
                go_roundw
                case rel => exact ⟨k' + 1, by omega, by go_num, HS, hI⟩
                case measure => simp [intOf]; omega
            · obtain rfl : k' = m := by omega
              have d2 : decide ((k' : Int) < (k' : Int)) = false := by simp
              have HS := Lib.hid (same_next HK.out HL.out (by rw [HM.out, same_done HLM.out HMM.out HK'.out]))
              go_wp2
              go_roundw
              case rel => exact ⟨k + 1, by omega, by go_num, HS, hb⟩
              case measure => simp [intOf]; omega
        · have e0 : ((m : Int) != (m2 : Int)) = true := by simp; omega
          have HF := Lib.hid (show r = false by rw [← HR.out]; exact same_not HL.out HM.out (of_decide_eq_false (same_len (by rw [← HLM.out, ← HMM.out]; exact hmm))))
          go_wp2
          have hI : Below w.heap.size w wr.drew := hb.drew
          refine wp_region_chain (fun W => Below w.heap.size w W) [(0, false), (1, false), (2, false), (3, false), (4, false), (5, false), (6, false), (7, false), (8, false), (9, false), (10, false)] (by kernel_rfl) (by kernel_rfl) hI ?_
          repeat (first
            | (refine ChainL.skip (o := ?_) ?_ ?_ ?_; rotate_left; (focus (first | (simp only [List.getElem?_toArray, List.getElem?_cons_succ, List.getElem?_cons_zero]; with_reducible rfl) | (simp only [List.getElem?_toArray, List.getElem?_cons_zero]; with_reducible rfl))); (focus rfl); simp only [Act.put, List.setIfInBounds_toArray, List.set_cons_zero, List.set_cons_succ])
            | (refine ChainL.val (o := ?_) (v := ?_) ?_ ?_ ?_ ?_ ?_; rotate_left 2; (focus (first | (simp only [List.getElem?_toArray, List.getElem?_cons_succ, List.getElem?_cons_zero]; with_reducible rfl) | (simp only [List.getElem?_toArray, List.getElem?_cons_zero]; with_reducible rfl))); (focus (intro _ _ h; cases h)); (focus rfl); (focus (intro w' hJ; obtain ⟨y1, y2, y3, y4⟩ := HC _ hJ; go_simp <;> with_reducible rfl)); simp only [Act.put, List.setIfInBounds_toArray, List.set_cons_zero, List.set_cons_succ]))
          refine ChainL.nil ?_
          go_wp2
          go_ret
          exact ⟨by rw [HF.out]; rfl, hI⟩
      · obtain rfl : k = n := by omega
        have d1 : decide ((k : Int) < (k : Int)) = false := by simp
        have HF := Lib.hid (show r = true by rw [← HR.out, decide_eq_true_eq]; exact same_done HN.out HN2.out HK.out)
        go_wp2
        go_ret
        exact ⟨by rw [HF.out]; rfl, hb⟩
  · have d0 : ((n : Int) != (n2 : Int)) = true := by simp; omega
    have HF := Lib.hid (show r = false by rw [← HR.out]; exact same_len (by rw [← HN.out, ← HN2.out]; exact hne))
    go_enter Try.func10, Try.ntmps10
    go_wp2
    go_ret
    exact ⟨by rw [HF.out]; rfl, Below.refl _ _⟩

end Go.Proofs.Ytelhckckcilpaaa

namespace Go.Proofs.Ytelhckckcilpaaa
open Go Go.RowKit
set_option linter.unusedVariables false
set_option linter.unusedSimpArgs false

def TR : List (List Pt) := [[(0, 0, 1), (6553600, 0, 1), (0, 6553600, 2)]]
def E20 : List Value := (encS TR).2
theorem tr_ok : (encS TR).1 = 0 := by decide +kernel
theorem tr_len : E20.length = 20 := by decide +kernel
theorem tr_dec : decS E20 = (TR, 0) := by decide +kernel
theorem bad_dec : decS [.int .u8 0, .int .u8 1, .int .u8 0] = ([], 110) := by decide +kernel
theorem tr_kind : (if ib2 (E20.take 2) 0 < 0 then (2 : Int) else 1) = 1 := by decide +kernel
theorem ff_kind : (if ib2 (([.int .u8 255, .int .u8 255] : List Value).take 2) 0 < 0 then (2 : Int) else 1) = 2 := by decide +kernel
theorem sm_tr : Sm TR := ⟨by decide, fun L hL => by simp [TR] at hL; subst hL; decide⟩
theorem b8_nil : Bytes8 [] := fun u hu => (nomatch hu)
theorem b8_stB (j1 j2 : Nat) : ∀ (F : List Nat) (X : List Int), Bytes8 (stB j1 j2 F X)
  | [], _ => b8_nil
  | _ :: _, [] => b8_nil
  | f :: F, x :: X => by
    rw [stB]
    refine Bytes8.append ?_ (b8_stB j1 j2 F X)
    split
    · split
      · exact be1_bytes _
      · exact be1_bytes _
    · split
      · exact b8_nil
      · exact be2_bytes _
theorem b8_pfE : ∀ (j : Nat) (F : List Int), Bytes8 (pfE j F)
  | 0, _ => b8_nil
  | j + 1, [] => b8_nil
  | j + 1, f :: F => by
    rw [pfE]
    refine Bytes8.append ?_ (b8_pfE j _)
    split
    · exact be1_bytes _
    · exact (be1_bytes _).append (be1_bytes _)
theorem b8_lasts : ∀ (Ls : List (List Pt)) (s : Nat), Bytes8 (lastsE s Ls)
  | [], _ => b8_nil
  | L :: Ls, s => by rw [lastsE]; exact (be2_bytes _).append (b8_lasts Ls _)
theorem b8_spB (Ls : List (List Pt)) (X Y : List Int) : Bytes8 (spB Ls X Y) := by
  unfold spB boxB
  exact (((((be2_bytes _).append ((((be2_bytes _).append (be2_bytes _)).append (be2_bytes _)).append (be2_bytes _))).append (b8_lasts Ls 0)).append (be2_bytes 0)).append (b8_pfE _ _)).append ((b8_stB 1 4 _ _).append (b8_stB 2 5 _ _))
theorem b8_encS (Ls : List (List Pt)) : Bytes8 (encS Ls).2 := by
  unfold encS
  split
  · split
    · split
      · exact b8_nil
      · split
        · exact b8_nil
        · exact b8_spB _ _ _
    · exact b8_nil
  · exact b8_nil
theorem spB_bytes (L : List Value) (h : L = E20) : Bytes8 L := by subst h; exact b8_encS TR
/-- What Encode answers, its cases. -/
theorem encS_cases (Ls : List (List Pt)) (h : (encS Ls).1 = 0) : Ls = [] ∧ (encS Ls).2 = [] ∨ ∃ X Y, chkE Ls = 0 ∧ stpE (fun p => p.1) Ls.flatten 0 = some X ∧ stpE (fun p => p.2.1) Ls.flatten 0 = some Y ∧ Ls.flatten.any isCub = false ∧ Ls ≠ [] ∧ (encS Ls).2 = spB Ls X Y := by
  unfold encS at h ⊢
  by_cases hc : chkE Ls = 0
  · rw [if_pos hc] at h ⊢
    cases hX : stpE (fun p => p.1) Ls.flatten 0 with
    | none => rw [hX] at h; simp at h
    | some X => cases hY : stpE (fun p => p.2.1) Ls.flatten 0 with
      | none => rw [hX, hY] at h; simp at h
      | some Y =>
        rw [hX, hY] at h
        simp only at h ⊢
        cases hcub : Ls.flatten.any isCub
        · by_cases hne : Ls = []
          · refine .inl ⟨hne, ?_⟩
            rw [if_neg (by simp), if_pos hne]
          · refine .inr ⟨X, Y, hc, rfl, rfl, rfl, hne, ?_⟩
            rw [if_neg (by simp), if_neg hne]
        · rw [hcub, if_pos rfl] at h; simp at h
  · rw [if_neg hc] at h; exact absurd h hc
theorem tup {w w1 : World} {A : Option Addr} {Ls : List (List Pt)} (h : OutAt w w.heap.size A Ls) (b : Below w.heap.size w w1) : OutAt w1 w1.heap.size A Ls := (h.below b).more b.size
theorem lup {w w1 : World} {A : Option Addr} {L : List Value} (h : Lists w w.heap.size A L) (b : Below w.heap.size w w1) : Lists w1 w1.heap.size A L := (h.below b).more b.size
theorem lists_head {w : World} {B : Nat} {A : Option Addr} {L : List Value} (h : Lists w B A L) (k : Nat) : Lists w B A (L.take k) := by
  have := lists_part h 0 k
  rw [List.drop_zero] at this
  cases A with
  | none => simpa using this
  | some a => simpa [Addr.add] using this
theorem tr_cells (w : World) : Lists (w.alloc (.cells (ptCells [(0, 0, 1), (6553600, 0, 1), (0, 6553600, 2)]).toArray 57)) (w.heap.size + 1) (some ⟨w.heap.size, 0, none⟩) (ptCells [(0, 0, 1), (6553600, 0, 1), (0, 6553600, 2)]) :=
  ⟨fun ha => (nomatch ha), fun a ha j u hu => by
    cases ha
    rw [addr_plain, World.cell?_alloc_new, Nat.zero_add, List.getElem?_toArray]
    exact hu, fun a ha _ => by cases ha; simp⟩
theorem tri_any (w : World) : Calls Try.prog 29 #[] w fun e w' => ∃ A c, e = .returned (.slice A 1 c) ∧ OutAt w' w'.heap.size A TR ∧ Below w.heap.size w w' := by
  have hl := tr_cells w
  go_enter Try.func29, Try.ntmps29
  go_wp2
  go_ret
  have b1 : Below w.heap.size w (w.alloc (.cells (ptCells [(0, 0, 1), (6553600, 0, 1), (0, 6553600, 2)]).toArray 57)) := below_a1 _ _
  refine ⟨some ⟨w.heap.size + 1, 0, none⟩, 1, rfl, ⟨fun i L h => ?_⟩, b1.alloc b1.size _⟩
  match i, h with
  | 0, h =>
    simp [TR] at h; subst h
    refine ⟨w.heap.size + 1, 0, some ⟨w.heap.size, 0, none⟩, 3, rfl, by simp, ?_, ?_⟩
    · have := World.cell?_alloc_new (w.alloc (.cells (ptCells [(0, 0, 1), (6553600, 0, 1), (0, 6553600, 2)]).toArray 57)) #[.slice (some ⟨w.heap.size, 0, none⟩) 3 3] 43 0
      rw [World.size_alloc] at this
      exact this
    · exact (hl.alloc (by simp) _).more (by simp)
  | i + 1, h => simp [TR] at h
theorem own_capS {w : World} {base n c : Nat} {A : Option Addr} {xs : List Value} {T : TypeId} (h : w.ownsRow base T 1 (.slice A n c) n xs) : c ≤ 9223372036854775807 := by
  rcases h.2 with ⟨h1, h2⟩ | ⟨g, cap, cur, h1, h2, h3, h4, h5, _⟩
  · injection h1 with _ _ h1; omega
  · injection h1 with _ _ h1; unfold maxLen at h5; omega
theorem tri_enc (A : Option Addr) (c : Nat) (w : World) (h : OutAt w w.heap.size A TR) : Calls Try.prog 14 #[.slice A 1 c] w fun e w' => ∃ A' c', e = .returned (.tuple #[.slice A' 20 c', .int .i64 0]) ∧ Lists w' w'.heap.size A' E20 ∧ 20 ≤ c' ∧ c' ≤ 9223372036854775807 ∧ Below w.heap.size w w' := by
  refine (spenc_any A c TR w h sm_tr).mono fun e w' ⟨A', c', h1, h2, h3⟩ => ?_
  rw [tr_ok, show (encS TR).2.length = 20 from tr_len] at h1
  rw [show (encS TR).2.length = 20 from tr_len] at h2
  obtain ⟨a, b⟩ := own_at h2
  exact ⟨A', c', h1, a, b, own_capS h2, h3⟩
theorem tri_dec (A : Option Addr) (c : Nat) (w : World) (h : Lists w w.heap.size A E20) (h1 : 20 ≤ c) (h2 : c ≤ 9223372036854775807) : Calls Try.prog 7 #[.slice A 20 c] w fun e w' => ∃ A' c', e = .returned (.tuple #[.slice A' 1 c', .int .i64 0]) ∧ OutAt w' w'.heap.size A' TR ∧ Below w.heap.size w w' := by
  refine (sdec_any A c 20 E20 w h tr_len (spB_bytes _ rfl) h1 h2 (by omega)).mono fun e w' ⟨v, h1, h2, h3⟩ => ?_
  rw [tr_dec] at h1 h2
  obtain ⟨A', c', rfl, o⟩ := h2.out
  exact ⟨A', c', h1, o, h3⟩
theorem bad3 (w : World) : Calls Try.prog 7 #[.slice (some ⟨w.heap.size, 0, none⟩) 3 3] (w.alloc (.cells #[.int .u8 0, .int .u8 1, .int .u8 0] 5)) fun e w' => ∃ v, e = .returned (.tuple #[v, .int .i64 110]) ∧ Below w.heap.size w w' := by
  have l : Lists (w.alloc (.cells #[.int .u8 0, .int .u8 1, .int .u8 0] 5)) (w.alloc (.cells #[.int .u8 0, .int .u8 1, .int .u8 0] 5)).heap.size (some ⟨w.heap.size, 0, none⟩) [.int .u8 0, .int .u8 1, .int .u8 0] := (lists_row w [.int .u8 0, .int .u8 1, .int .u8 0] 5).more (by simp)
  refine (sdec_any _ 3 3 _ _ l rfl (fun v hv => ?_) (by omega) (by omega) (by omega)).mono fun e w' ⟨v, h1, h2, h3⟩ => ⟨v, by rw [bad_dec] at h1; exact h1, (below_a1 w _).trans (h3.mono (by simp))⟩
  simp at hv
  rcases hv with rfl | rfl | rfl
  · exact ⟨0, by omega, rfl⟩
  · exact ⟨1, by omega, rfl⟩
  · exact ⟨0, by omega, rfl⟩
theorem tri_kind (A : Option Addr) (c : Nat) (w : World) (h : Lists w w.heap.size A E20) (h1 : 20 ≤ c) (h2 : c ≤ 9223372036854775807) : Calls Try.prog 11 #[.slice A 20 c] w fun e w' => e = .returned (.int .i64 1) ∧ Below w.heap.size w w' := by
  have := spkind_any A c 20 E20 w h tr_len (spB_bytes _ rfl) h1 h2 (by omega)
  unfold knE at this
  rw [if_neg (by intro e; have := tr_len; rw [e] at this; simp at this), tr_kind] at this
  exact this
theorem ff_kind_any (w : World) : Calls Try.prog 11 #[.slice (some ⟨w.heap.size, 0, none⟩) 2 2] (w.alloc (.cells #[.int .u8 255, .int .u8 255] 5)) fun e w' => e = .returned (.int .i64 2) ∧ Below w.heap.size w w' := by
  have l : Lists (w.alloc (.cells #[.int .u8 255, .int .u8 255] 5)) (w.alloc (.cells #[.int .u8 255, .int .u8 255] 5)).heap.size (some ⟨w.heap.size, 0, none⟩) [.int .u8 255, .int .u8 255] := (lists_row w [.int .u8 255, .int .u8 255] 5).more (by simp)
  have := spkind_any _ 2 2 _ _ l rfl (fun v hv => by simp at hv; subst hv; exact ⟨255, by omega, rfl⟩) (by omega) (by omega) (by omega)
  unfold knE at this
  rw [if_neg (by simp), ff_kind] at this
  exact this.mono fun e w' ⟨h1, h3⟩ => ⟨h1, (below_a1 w _).trans (h3.mono (by simp))⟩
theorem nil_kind (w : World) : Calls Try.prog 11 #[.slice none 0 0] w fun e w' => e = .returned (.int .i64 0) ∧ Below w.heap.size w w' := by
  have := spkind_any none 0 0 [] w (Lists.empty _ _ _) rfl (fun v hv => (nomatch hv)) (by omega) (by omega) (by omega)
  unfold knE at this
  rw [if_pos rfl] at this
  exact this
theorem tri_same (w : World) (A A2 : Option Addr) (c c2 : Nat) (h : OutAt w w.heap.size A TR) (h2 : OutAt w w.heap.size A2 TR) : Calls Try.prog 10 #[.slice A 1 c, .slice A2 1 c2] w fun e w' => e = .returned (.bool true) ∧ Below w.heap.size w w' :=
  rsame_any w.heap.size A A2 c c2 TR TR w (Nat.le_refl _) h h2 sm_tr sm_tr true (by simp)
set_option maxRecDepth 100000 in
set_option maxHeartbeats 4000000 in
theorem lives11 (w : World) : Calls Try.prog 9 #[] w fun e w' => e = .returned (.bool true) ∧ Below w.heap.size w w' := by
  go_enter Try.func9, Try.ntmps9
  go_wp2_with (first
    | (go_at_call 29; ((with_reducible refine (tri_any w).mono ?_); rintro e w1 ⟨A1, c1, rfl, o1, b1⟩))
    | (go_at_call 14; ((with_reducible refine (tri_enc A1 c1 _ o1).mono ?_); rintro e w2 ⟨A2, c2, rfl, l2, m2, n2, b2⟩; have B2 := b1.trans (b2.mono b1.size)))
    | (go_at_call 7; ((with_reducible refine (tri_dec A2 c2 _ l2 m2 n2).mono ?_); rintro e w3 ⟨A3, c3, rfl, o3, b3⟩; have B3 := B2.trans (b3.mono B2.size); have l2 := lup l2 b3))
    | (go_at_call 7; ((with_reducible refine (bad3 _).mono ?_); rintro e w4 ⟨v4, rfl, b4⟩; have B4 := B3.trans (b4.mono B3.size); have l2 := lup l2 b4; have o3 := tup o3 b4))
    | (go_at_call 29; ((with_reducible refine (tri_any w4).mono ?_); rintro e w5 ⟨A5, c5, rfl, o5, b5⟩; have B5 := B4.trans (b5.mono B4.size); have l2 := lup l2 b5; have o3 := tup o3 b5))
    | (go_at_call 10; ((with_reducible refine (tri_same _ A3 A5 c3 c5 o3 o5).mono ?_); rintro e w6 ⟨rfl, b6⟩; have B6 := B5.trans (b6.mono B5.size); have l2 := lup l2 b6))
    | (go_at_call 11; ((with_reducible refine (tri_kind A2 c2 _ l2 m2 n2).mono ?_); rintro e w7 ⟨rfl, b7⟩; have B7 := B6.trans (b7.mono B6.size)))
    | (go_at_call 11; ((with_reducible refine (ff_kind_any _).mono ?_); rintro e w8 ⟨rfl, b8⟩; have B8 := B7.trans (b8.mono B7.size)))
    | (go_at_call 11; ((with_reducible refine (nil_kind _).mono ?_); rintro e w9 ⟨rfl, b9⟩; have B9 := B8.trans (b9.mono B8.size))))
  go_ret
  exact ⟨rfl, B9⟩
end Go.Proofs.Ytelhckckcilpaaa
