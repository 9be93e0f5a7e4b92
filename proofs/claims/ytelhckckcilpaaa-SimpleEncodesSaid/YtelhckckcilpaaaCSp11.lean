/- Part 12 of the proof: SpM, SpN, SpO, SpR. -/
import Derived.Test.YtelhckckcilpaaaCSp10

namespace Go.Proofs.Ytelhckckcilpaaa
open Go Go.RowKit
set_option linter.unusedVariables false
set_option linter.unusedSimpArgs false

/-- Each contour's last point, as two bytes. -/
def lastsE : Nat → List (List Pt) → List Value
  | _, [] => []
  | s, L :: Ls => be2 (((s + L.length : Nat) : Int) - 1) ++ lastsE (s + L.length) Ls
theorem be2_len (x : Int) : (be2 x).length = 2 := rfl
theorem lastsE_len : ∀ (Ls : List (List Pt)) (s : Nat), (lastsE s Ls).length = 2 * Ls.length
  | [], _ => rfl
  | L :: Ls, s => by rw [lastsE, List.length_append, be2_len, lastsE_len Ls, List.length_cons]; omega
theorem lastsE_snoc : ∀ (Ls : List (List Pt)) (L : List Pt) (s : Nat), lastsE s (Ls ++ [L]) = lastsE s Ls ++ be2 (((s + cntO Ls + L.length : Nat) : Int) - 1)
  | [], L, s => by simp [lastsE, cntO]
  | M :: Ls, L, s => by
    rw [List.cons_append, lastsE, lastsE_snoc Ls L, lastsE, List.append_assoc]
    simp only [cntO, List.length_cons, List.map_cons, List.sum_cons, List.flatten_cons, List.length_append]
    try simp only [Nat.add_assoc]
set_option maxRecDepth 100000 in
theorem plasts_any (w0 : World) (p R : Nat) (W : List Value) (A : Option Addr) (c : Nat) (Ls : List (List Pt)) (w : World) (hL : OutAt w0 w0.heap.size A Ls) (hs : Sm Ls) (hW : WS w0 w p R W) (hx : W.length + 2 * Ls.length ≤ R) (hR : R ≤ 1099511627776) :
    Calls Try.prog 41 #[.pointer (some ⟨p, 0, none⟩), .slice A Ls.length c] w fun e w' => e = .returned (.tuple #[]) ∧ WS w0 w' p R (W ++ lastsE 0 Ls) ∧ Safe w w' ∧ w.heap.size ≤ w'.heap.size := by
  have hn := hs.1
  have HM := Lib.hid hs.2
  have HL := Lib.hid hL
  obtain ⟨n, hnn⟩ : ∃ n, n = Ls.length := ⟨_, rfl⟩
  rw [← hnn] at hn hx ⊢
  have HN := Lib.hid hnn
  have HW0 := Lib.hid (show WS w0 w p R (W ++ lastsE 0 (Ls.take 0)) by simp only [List.take_zero, lastsE, List.append_nil]; exact hW)
  clear hnn hs hL hW
  go_enter Try.func41, Try.ntmps41
  go_wp2
  go_loopw [4, 9] (fun s i wr => ∃ k : Nat, k ≤ n ∧ i = .int .i64 k ∧ s = .int .i64 (cntO (Ls.take k) : Nat) ∧ Hid (WS w0 wr p R (W ++ lastsE 0 (Ls.take k))) ∧ Safe w wr ∧ w.heap.size ≤ wr.heap.size) (fun _ i _ => n - (intOf i).toNat)
  case atStart => exact ⟨0, Nat.zero_le _, rfl, rfl, HW0, fun _ _ _ _ _ _ h => h, Nat.le_refl _⟩
  case round =>
    obtain ⟨k, hk, rfl, rfl, hw, hsf, hsz⟩ := hrel
    by_cases hlt : k < n
    · have d1 : decide ((k : Int) < (n : Int)) = true := by simp; omega
      obtain ⟨L, hL⟩ := at_some (L := Ls) (k := k) (by rw [← HN.out]; exact hlt)
      obtain ⟨b, o, Ai, ci, rfl, hbl, c0, hE⟩ := HL.out.at' k L hL
      have g0 := (hw.out.old.cell (p := ⟨b, o + k, none⟩) hbl).trans c0
      have g3 : b < wr.heap.size := Nat.lt_of_lt_of_le hbl hw.out.old.size
      have HS := Lib.hid (show cntO (Ls.take (k + 1)) = cntO (Ls.take k) + L.length by rw [take_snoc1 hL, cntO_snoc])
      have hl : L.length ≤ 100000 := HM.out L (List.mem_of_getElem? hL)
      have hc : cntO (Ls.take k) ≤ 10000000000 := Nat.le_trans (cntO_le fun M hM => HM.out M (List.mem_of_mem_take hM)) (by have : (Ls.take k).length ≤ 100000 := Nat.le_trans (List.length_take_le _ _) (by omega); omega)
      have HLA := Lib.hid (show lastsE 0 (Ls.take (k + 1)) = lastsE 0 (Ls.take k) ++ be2 (((cntO (Ls.take k) : Nat) : Int) + (L.length : Int) - 1) by
        rw [take_snoc1 hL, lastsE_snoc]
        congr 2
        omega)
      have hlen : (W ++ lastsE 0 (Ls.take k)).length + 2 ≤ R := by
        rw [List.length_append, lastsE_len, List.length_take, Nat.min_eq_left (by rw [← HN.out]; omega)]
        omega
      have CU := fun (x : Int) => wsU16 w0 wr p R _ x hw.out hlen hR
      have HW := hw
      clear c0 hE hL hw hlen
      generalize L.length = l at *
      generalize hcs : cntO (Ls.take k) = s at *
      clear hcs
      go_wp2_with (go_at_call 42; ((with_reducible refine (CU _).mono ?_); rintro e w3 ⟨rfl, hw3, hs3, hz3⟩))
      go_roundw
      case rel => exact ⟨k + 1, by omega, by go_num, congrArg (Value.int .i64) (by rw [HS.out]; omega), Lib.hid (by rw [HLA.out, ← List.append_assoc]; exact hw3), fun q T cs a1 a2 a3 h => hs3 q T cs a1 a2 a3 (hsf q T cs a1 a2 a3 h), by omega⟩
      case measure => simp [intOf]; omega
    · obtain rfl : k = n := by omega
      have d1 : decide ((k : Int) < (k : Int)) = false := by simp
      have HT := Lib.hid (show Ls.take k = Ls by rw [HN.out]; exact List.take_length)
      go_wp2
      go_end0
      exact ⟨rfl, by rw [← HT.out]; exact hw.out, hsf, hsz⟩

/-- Which of an axis' two bits are set. -/
def sbE (a b : Nat) (x : Int) : Nat := if x = 0 then b else if 0 < x ∧ x ≤ 255 then a + b else if -255 ≤ x ∧ x < 0 then a else 0
set_option maxRecDepth 100000 in
theorem bits_x (x : Int) (w : World) : Calls Try.prog 73 #[.int .i64 x, .int .i64 2, .int .i64 16] w fun e w' => e = .returned (.int .i64 (sbE 2 16 x : Nat)) ∧ w = w' := by
  by_cases h0 : x = 0
  · subst h0
    go_enter Try.func73, Try.ntmps73
    go_wp2
    go_ret
    exact ⟨rfl, rfl⟩
  · by_cases h1 : 0 < x
    · by_cases h2 : x ≤ 255
      · have HE := Lib.hid (show sbE 2 16 x = 18 by unfold sbE; rw [if_neg h0, if_pos ⟨h1, h2⟩])
        go_enter Try.func73, Try.ntmps73
        go_wp2
        go_ret
        exact ⟨by rw [HE.out]; rfl, rfl⟩
      · have HE := Lib.hid (show sbE 2 16 x = 0 by unfold sbE; rw [if_neg h0, if_neg (by omega), if_neg (by omega)])
        have h3 : ¬ x < 0 := by omega
        have h4 : -255 ≤ x := by omega
        go_enter Try.func73, Try.ntmps73
        go_wp2
        go_ret
        exact ⟨by rw [HE.out]; rfl, rfl⟩
    · by_cases h2 : -255 ≤ x
      · have HE := Lib.hid (show sbE 2 16 x = 2 by unfold sbE; rw [if_neg h0, if_neg (by omega), if_pos (by omega)])
        have h3 : x < 0 := by omega
        go_enter Try.func73, Try.ntmps73
        go_wp2
        go_ret
        exact ⟨by rw [HE.out]; rfl, rfl⟩
      · have HE := Lib.hid (show sbE 2 16 x = 0 by unfold sbE; rw [if_neg h0, if_neg (by omega), if_neg (by omega)])
        go_enter Try.func73, Try.ntmps73
        go_wp2
        go_ret
        exact ⟨by rw [HE.out]; rfl, rfl⟩
set_option maxRecDepth 100000 in
theorem bits_y (x : Int) (w : World) : Calls Try.prog 73 #[.int .i64 x, .int .i64 4, .int .i64 32] w fun e w' => e = .returned (.int .i64 (sbE 4 32 x : Nat)) ∧ w = w' := by
  by_cases h0 : x = 0
  · subst h0
    go_enter Try.func73, Try.ntmps73
    go_wp2
    go_ret
    exact ⟨rfl, rfl⟩
  · by_cases h1 : 0 < x
    · by_cases h2 : x ≤ 255
      · have HE := Lib.hid (show sbE 4 32 x = 36 by unfold sbE; rw [if_neg h0, if_pos ⟨h1, h2⟩])
        go_enter Try.func73, Try.ntmps73
        go_wp2
        go_ret
        exact ⟨by rw [HE.out]; rfl, rfl⟩
      · have HE := Lib.hid (show sbE 4 32 x = 0 by unfold sbE; rw [if_neg h0, if_neg (by omega), if_neg (by omega)])
        have h3 : ¬ x < 0 := by omega
        have h4 : -255 ≤ x := by omega
        go_enter Try.func73, Try.ntmps73
        go_wp2
        go_ret
        exact ⟨by rw [HE.out]; rfl, rfl⟩
    · by_cases h2 : -255 ≤ x
      · have HE := Lib.hid (show sbE 4 32 x = 4 by unfold sbE; rw [if_neg h0, if_neg (by omega), if_pos (by omega)])
        have h3 : x < 0 := by omega
        go_enter Try.func73, Try.ntmps73
        go_wp2
        go_ret
        exact ⟨by rw [HE.out]; rfl, rfl⟩
      · have HE := Lib.hid (show sbE 4 32 x = 0 by unfold sbE; rw [if_neg h0, if_neg (by omega), if_neg (by omega)])
        go_enter Try.func73, Try.ntmps73
        go_wp2
        go_ret
        exact ⟨by rw [HE.out]; rfl, rfl⟩
end Go.Proofs.Ytelhckckcilpaaa

namespace Go.Proofs.Ytelhckckcilpaaa
open Go Go.RowKit
set_option linter.unusedVariables false
set_option linter.unusedSimpArgs false

def fgE (x y k : Int) : Nat := if k = 1 then sbE 2 16 x + sbE 4 32 y + 1 else sbE 2 16 x + sbE 4 32 y
def fgsE : List Pt → List Int → List Int → List Nat
  | p :: P, x :: X, y :: Y => fgE x y p.2.2 :: fgsE P X Y
  | _, _, _ => []
theorem sb_cases (a b : Nat) (x : Int) : sbE a b x = 0 ∨ sbE a b x = a ∨ sbE a b x = b ∨ sbE a b x = a + b := by
  unfold sbE
  split
  · simp
  · split
    · simp
    · split <;> simp
theorem or_xy (x y : Int) : bits .or .i64 ((sbE 2 16 x : Nat) : Int) ((sbE 4 32 y : Nat) : Int) = ((sbE 2 16 x + sbE 4 32 y : Nat) : Int) := by
  rcases sb_cases 2 16 x with h | h | h | h <;> rcases sb_cases 4 32 y with k | k | k | k <;> (rw [h, k]; rfl)
theorem or_one (x y : Int) : bits .or .i64 ((sbE 2 16 x + sbE 4 32 y : Nat) : Int) 1 = ((sbE 2 16 x + sbE 4 32 y + 1 : Nat) : Int) := by
  rcases sb_cases 2 16 x with h | h | h | h <;> rcases sb_cases 4 32 y with k | k | k | k <;> (rw [h, k]; rfl)
theorem fgE_lt (x y k : Int) : fgE x y k < 256 := by
  unfold fgE
  rcases sb_cases 2 16 x with h | h | h | h <;> rcases sb_cases 4 32 y with g | g | g | g <;> (rw [h, g]; split <;> omega)
theorem fgs_next {P : List Pt} {X Y : List Int} {i : Nat} {p : Pt} {x y : Int} (hp : P[i]? = some p) (hx : X[i]? = some x) (hy : Y[i]? = some y) : fgsE (P.drop i) (X.drop i) (Y.drop i) = fgE x y p.2.2 :: fgsE (P.drop (i + 1)) (X.drop (i + 1)) (Y.drop (i + 1)) := by
  obtain ⟨h1, h2⟩ := List.getElem?_eq_some_iff.1 hp
  obtain ⟨h3, h4⟩ := List.getElem?_eq_some_iff.1 hx
  obtain ⟨h5, h6⟩ := List.getElem?_eq_some_iff.1 hy
  rw [List.drop_eq_getElem_cons h1, List.drop_eq_getElem_cons h3, List.drop_eq_getElem_cons h5, h2, h4, h6]; rfl
theorem fgs_len : ∀ (P : List Pt) (X Y : List Int), X.length = P.length → Y.length = P.length → (fgsE P X Y).length = P.length
  | [], _, _, _, _ => by cases ‹List Int› <;> rfl
  | p :: P, x :: X, y :: Y, h1, h2 => by
    rw [fgsE, List.length_cons, fgs_len P X Y (by simpa using h1) (by simpa using h2)]; rfl
  | p :: P, [], _, h1, _ => by simp at h1
  | p :: P, x :: X, [], _, h2 => by simp at h2
set_option maxRecDepth 100000 in
set_option maxHeartbeats 2000000 in
theorem flagsOf_any (A Ax Ay : Option Addr) (c cx cy n : Nat) (P : List Pt) (X Y : List Int) (w : World) (hP : Lists w w.heap.size A (ptCells P)) (hX : Lists w w.heap.size Ax (intCells X)) (hY : Lists w w.heap.size Ay (intCells Y))
    (hPn : P.length = n) (hXn : X.length = n) (hYn : Y.length = n) (hn : n ≤ 100000) :
    Calls Try.prog 43 #[.slice A n c, .slice Ax n cx, .slice Ay n cy] w fun e w' => ∃ v, e = .returned v ∧ w'.ownsRow w.heap.size 3 1 v n (ints (fgsE P X Y)) ∧ Below w.heap.size w w' := by
  obtain ⟨R, hR⟩ : ∃ R, R = fgsE P X Y := ⟨_, rfl⟩
  rw [← hR]
  have HP := Lib.hid hP
  have HX := Lib.hid hX
  have HY := Lib.hid hY
  have HPN := Lib.hid hPn
  have HXN := Lib.hid hXn
  have HYN := Lib.hid hYn
  have Q0 : Hid (R = ([] : List Nat) ++ fgsE (P.drop 0) (X.drop 0) (Y.drop 0)) := Lib.hid hR
  obtain ⟨i0, hi, hz0, hz1, hz2⟩ := info_partsS intInfoS
  clear hR hP hX hY hPn hXn hYn
  go_enter Try.func43, Try.ntmps43
  go_wp2
  go_loopw [7, 13] (fun v i wr => ∃ (k : Nat) (acc : List Nat), k ≤ n ∧ acc.length = k ∧ i = .int .i64 (k : Nat) ∧ wr.ownsRow w.heap.size 3 1 v k (ints acc) ∧ Below w.heap.size w wr ∧ Hid (R = acc ++ fgsE (P.drop k) (X.drop k) (Y.drop k))) (fun _ i _ => n - (intOf i).toNat)
  case atStart => exact ⟨0, [], Nat.zero_le _, rfl, rfl, World.ownsRow_nil _ _ _ _, Below.refl _ _, Q0⟩
  case round =>
    clear Q0
    obtain ⟨i, acc, hk, hacc, rfl, hown, hbw, hQ⟩ := hrel
    by_cases hlt : i < n
    · have d1 : decide ((i : Int) < (n : Int)) = true := by simp; omega
      obtain ⟨⟨px, py, pz⟩, hp⟩ := at_some (L := P) (k := i) (by rw [HPN.out]; exact hlt)
      obtain ⟨s, u, rfl, hs, c0, c1, c2⟩ := lists_pt HP.out hp
      have hw0 : ∀ j, wr.cell? ⟨s, j, none⟩ = w.cell? ⟨s, j, none⟩ := fun j => hbw.cell (p := ⟨s, j, none⟩) hs
      have y0 := (hw0 _).trans c0
      have y1 := (hw0 _).trans c1
      have y2 := (hw0 _).trans c2
      simp only at y0 y1 y2
      have yl : s < wr.heap.size := Nat.lt_of_lt_of_le hs hbw.size
      obtain ⟨a, ha⟩ := at_some (L := X) (k := i) (by rw [HXN.out]; exact hlt)
      obtain ⟨b, hb⟩ := at_some (L := Y) (k := i) (by rw [HYN.out]; exact hlt)
      have hax : (intCells X)[i]? = some (.int .i64 a) := by unfold intCells; rw [List.getElem?_map, ha]; rfl
      have hby : (intCells Y)[i]? = some (.int .i64 b) := by unfold intCells; rw [List.getElem?_map, hb]; rfl
      obtain ⟨sx, ox, rfl, hsx, hcx⟩ := HX.out.plain (by intro e; rw [e] at hax; simp at hax)
      obtain ⟨sy, oy, rfl, hsy, hcy⟩ := HY.out.plain (by intro e; rw [e] at hby; simp at hby)
      have gx := hcx i _ hax
      have gy := hcy i _ hby
      have hrun := hQ.out
      rw [fgs_next hp ha hb] at hrun
      have HRUN := Lib.hid hrun
      have HO := Lib.hid hown
      have BA := below_a1 wr (.cells #[.int .i64 px, .int .i64 py, .int .i64 pz] 57)
      have hbs := hbw.size
      obtain ⟨W, hW⟩ : ∃ W, W = wr.alloc (.cells #[.int .i64 px, .int .i64 py, .int .i64 pz] 57) := ⟨_, rfl⟩
      have K0 := Lib.hid (Blk.new wr 57 #[.int .i64 px, .int .i64 py, .int .i64 pz])
      rw [← hW] at BA K0
      have HCX := Lib.hid (show ∀ V, Below W.heap.size W V → V.cell? ⟨sx, ox + i, none⟩ = some (.int .i64 a) from fun V hV => ((hbw.trans ((BA.trans (hV.mono BA.size)).mono hbs)).cell (p := ⟨sx, ox + i, none⟩) hsx).trans gx)
      have HCY := Lib.hid (show ∀ V, Below W.heap.size W V → V.cell? ⟨sy, oy + i, none⟩ = some (.int .i64 b) from fun V hV => ((hbw.trans ((BA.trans (hV.mono BA.size)).mono hbs)).cell (p := ⟨sy, oy + i, none⟩) hsy).trans gy)
      have HBX := Lib.hid (show ∀ V, Below W.heap.size W V → sx < V.heap.size from fun V hV => Nat.lt_of_lt_of_le hsx (hbw.trans ((BA.trans (hV.mono BA.size)).mono hbs)).size)
      have HBY := Lib.hid (show ∀ V, Below W.heap.size W V → sy < V.heap.size from fun V hV => Nat.lt_of_lt_of_le hsy (hbw.trans ((BA.trans (hV.mono BA.size)).mono hbs)).size)
      have HBA := Lib.hid BA
      have CWa := fun W => bits_x a W
      have CWb := fun W => bits_y b W
      have OR := or_xy a b
      have OR1 := or_one a b
      have HACp : ∀ j, fgE a b j = if j = 1 then sbE 2 16 a + sbE 4 32 b + 1 else sbE 2 16 a + sbE 4 32 b := fun _ => rfl
      have h50 : sbE 2 16 a + sbE 4 32 b < 256 := by have := fgE_lt a b 0; unfold fgE at this; simpa using this
      generalize sbE 2 16 a + sbE 4 32 b + 1 = m9 at *
      generalize sbE 2 16 a + sbE 4 32 b = m8 at *
      generalize sbE 2 16 a = m1 at *
      generalize sbE 4 32 b = m2 at *
      have HAC := Lib.hid HACp
      clear HACp
      clear BA c0 c1 c2 hw0 hQ hown hrun hax hby hcx hcy gx gy ha hb hp hsx hsy
      go_wp2
      rw [← hW]
      clear hW
      refine wp_region_plan (fun V => Below W.heap.size W V) _ rfl (by kernel_rfl) (by kernel_rfl) ((Below.refl _ _).drew) ?_
      repeat (first
        | (refine PlanL.skip (by rfl) ?_; simp only [Act.put, List.setIfInBounds_toArray, List.set_cons_zero, List.set_cons_succ])
        | (refine PlanL.val (v := ?_) (by rfl) ?_ ?_; rotate_left; (focus (intro w' hS; have YX := HCX.out _ hS; have YY := HCY.out _ hS; have YBX := HBX.out _ hS; have YBY := HBY.out _ hS; go_simp <;> with_reducible rfl)); try simp only [Act.put, List.setIfInBounds_toArray, List.set_cons_zero, List.set_cons_succ])
        | (refine PlanL.call (v := ?_) (f := ?_) (args := ?_) (by rfl) ?_ ?_ ?_; rotate_left 3; (focus (intro w' hS; have YX := HCX.out _ hS; have YY := HCY.out _ hS; have YBX := HBX.out _ hS; have YBY := HBY.out _ hS; go_simp; (constructor <;> with_reducible rfl))); (focus (intro w' hS; first | ((with_reducible refine (CWa _).mono ?_); rintro e w'' ⟨rfl, rfl⟩; refine ⟨?_, hS⟩; with_reducible rfl) | ((with_reducible refine (CWb _).mono ?_); rintro e w'' ⟨rfl, rfl⟩; refine ⟨?_, hS⟩; with_reducible rfl) | fail)); try simp only [Act.put, List.setIfInBounds_toArray, List.set_cons_zero, List.set_cons_succ]))
      refine PlanL.nil ?_
      intro w' hS
      have YX := HCX.out _ hS; have YY := HCY.out _ hS; have YBX := HBX.out _ hS; have YBY := HBY.out _ hS
      clear YX YY YBX YBY
      have BV := HBA.out.trans (hS.mono HBA.out.size)
      have hv0 := BV.size
      have K8 := K0.out.below hS
      have z2 := K8.cell 2
      have zl := K8.lt
      simp only [List.getElem?_toArray, List.getElem?_cons_succ, List.getElem?_cons_zero] at z2
      clear K8 hS
      by_cases hz : pz = 1
      · have HN := Lib.hid (show R = (acc ++ [m9]) ++ fgsE (P.drop (i + 1)) (X.drop (i + 1)) (Y.drop (i + 1)) by rw [HRUN.out, HAC.out, if_pos hz]; simp)
        clear HRUN HAC
        go_wp2_with (at_builtin; refine wpList_append_src _ rfl (.tmp 34) (.tmp 36) 38 rfl w.heap.size 3 i0 (.int .i64 0) 1 8 Try.underlying38 hi hz0 hz1 hz2 rfl (by decide) _ i (ints acc) rfl (ownS_stay HO.out (BV.trans ((below_a1 w' (.cells #[.int .i64 (m9 : Nat)] 3)).mono BV.size))) (w'.heap.size + 1) (some ⟨w'.heap.size, 0, none⟩) 1 1 [.int .i64 (m9 : Nat)] (by rfl) (lists_row w' [.int .i64 (m9 : Nat)] 3) rfl (by simp [Value.oneCell']) (by simp only [maxLen]; omega) (by omega) (by simp; omega) ?_; intro v6 w6 own6 hg6 hat6)
        have BN : Below wr.heap.size wr (w'.alloc (.cells #[.int .i64 (m9 : Nat)] 3)) := BV.trans ((below_a1 w' _).mono BV.size)
        have hb6 : Below w.heap.size w w6 := (hbw.trans (BN.mono hbs)).grown hg6 ((hbw.trans (BN.mono hbs)).size) (fun b hb' => ownS_low HO.out b (by have h9 : u7.ownBlock = some b := hb'; unfold blk; rw [h9]; simp))
        have own7 : w6.ownsRow w.heap.size 3 1 v6 (i + 1) (ints (acc ++ [m9])) := by rw [ints_app]; exact own6
        go_roundw
        case rel => exact ⟨i + 1, acc ++ [m9], by omega, by rw [List.length_append, hacc]; rfl, by first | rfl | (go_num), own7, hb6, HN⟩
        case measure => first | (simp [intOf]; done) | (simp [intOf]; omega)
      · have HN := Lib.hid (show R = (acc ++ [m8]) ++ fgsE (P.drop (i + 1)) (X.drop (i + 1)) (Y.drop (i + 1)) by rw [HRUN.out, HAC.out, if_neg hz]; simp)
        clear HRUN HAC
        go_wp2_with (at_builtin; refine wpList_append_src _ rfl (.tmp 34) (.tmp 36) 38 rfl w.heap.size 3 i0 (.int .i64 0) 1 8 Try.underlying38 hi hz0 hz1 hz2 rfl (by decide) _ i (ints acc) rfl (ownS_stay HO.out (BV.trans ((below_a1 w' (.cells #[.int .i64 (m8 : Nat)] 3)).mono BV.size))) (w'.heap.size + 1) (some ⟨w'.heap.size, 0, none⟩) 1 1 [.int .i64 (m8 : Nat)] (by rfl) (lists_row w' [.int .i64 (m8 : Nat)] 3) rfl (by simp [Value.oneCell']) (by simp only [maxLen]; omega) (by omega) (by simp; omega) ?_; intro v6 w6 own6 hg6 hat6)
        have BN : Below wr.heap.size wr (w'.alloc (.cells #[.int .i64 (m8 : Nat)] 3)) := BV.trans ((below_a1 w' _).mono BV.size)
        have hb6 : Below w.heap.size w w6 := (hbw.trans (BN.mono hbs)).grown hg6 ((hbw.trans (BN.mono hbs)).size) (fun b hb' => ownS_low HO.out b (by have h9 : u7.ownBlock = some b := hb'; unfold blk; rw [h9]; simp))
        have own7 : w6.ownsRow w.heap.size 3 1 v6 (i + 1) (ints (acc ++ [m8])) := by rw [ints_app]; exact own6
        go_roundw
        case rel => exact ⟨i + 1, acc ++ [m8], by omega, by rw [List.length_append, hacc]; rfl, by first | rfl | (go_num), own7, hb6, HN⟩
        case measure => first | (simp [intOf]; done) | (simp [intOf]; omega)
    · obtain rfl : i = n := by omega
      have d1 : ¬ (i : Int) < (i : Int) := by omega
      have HR := Lib.hid (show acc = R by
        rw [hQ.out, List.drop_eq_nil_of_le (by rw [HPN.out]; exact Nat.le_refl _)]
        simp [fgsE])
      have HO := Lib.hid hown
      clear hQ hown
      go_wp2
      go_ret
      exact ⟨_, rfl, by rw [← HR.out]; exact HO.out, hbw⟩
end Go.Proofs.Ytelhckckcilpaaa

namespace Go.Proofs.Ytelhckckcilpaaa
open Go Go.RowKit
set_option linter.unusedVariables false
set_option linter.unusedSimpArgs false

theorem spslice_okI (A : Option Addr) (n c a : Nat) (h1 : a ≤ n) (h2 : n ≤ c) (w : World) : (Instr.sliceAt 38 (.slice A n c) (some (.int .i64 (a : Nat))) none none).run Try.prog w = .ok (.slice (if c = a then A else A.map (·.add a)) (n - a) (c - a)) w := by
  have hu := Try.underlying38
  have hz := Try.sizeOf3
  have i2 : (n : Int) ≤ (c : Int) := by omega
  have i3 : (0 : Int) ≤ (a : Int) := by omega
  have i4 : (a : Int) ≤ (n : Int) := by omega
  simp [Instr.sliceAt, Instr.slice, Instr.sliceBounds, Instr.sliceBound, run_underlying hu, Sem.run_bind, Sem.run_pure, Result.andThen, asIntOf, hz, i3, h1, h2]
theorem splists_dropI {w : World} {B : Nat} {A : Option Addr} {L : List Int} (h : Lists w B A (intCells L)) (a c : Nat) (h1 : a ≤ L.length) (h2 : L.length ≤ c) : Lists w B (if c = a then A else A.map (·.add a)) (intCells (L.drop a)) := by
  have e : intCells (L.drop a) = ((intCells L).drop a).take (L.length - a) := by
    unfold intCells
    rw [List.map_drop, List.take_of_length_le (by simp)]
  rw [e]
  by_cases hc : c = a
  · rw [if_pos hc, show L.length - a = 0 by omega, List.take_zero]
    exact ⟨fun _ => rfl, fun _ _ j u hu => by simp at hu, fun _ _ hx => absurd rfl hx⟩
  · rw [if_neg hc]
    exact lists_part h a (L.length - a)
set_option maxRecDepth 100000 in
theorem idxInt_any (g : FuncId) (lb : Array Value) (p : Int → Bool) (B : Nat) (A : Option Addr) (c : Nat) (L : List Int) (w : World) (hB : B ≤ w.heap.size) (hL : Lists w B A (intCells L)) (hn : L.length ≤ 1099511627776)
    (eg : ∀ args w, (callFunc g args).run Try.prog w = .ok (.enter g args) w)
    (hp : ∀ (W : World) (x : Int), x ∈ L → Below w.heap.size w W → Calls Try.prog g (#[.int .i64 x] ++ lb) W fun e w' => e = .returned (.bool (p x)) ∧ Below W.heap.size W w') :
    Calls Try.prog 74 #[.slice A L.length c, .func (.func g) #[] lb] w fun e w' => e = .returned (.int .i64 (idxP p L)) ∧ Below w.heap.size w w' := by
  have HL := Lib.hid hL
  have HP := Lib.hid hp
  clear hL hp
  obtain ⟨n, hnn⟩ : ∃ n, n = L.length := ⟨_, rfl⟩
  rw [← hnn] at hn ⊢
  have HN := Lib.hid hnn
  clear hnn
  go_enter Try.func74, Try.ntmps74
  go_wp2
  go_loopw [8] (fun i wr => ∃ k : Nat, k ≤ n ∧ i = .int .i64 k ∧ Hid ((L.take k).any p = false) ∧ Below w.heap.size w wr) (fun i _ => n - (intOf i).toNat)
  case atStart => exact ⟨0, Nat.zero_le _, rfl, Lib.hid rfl, Below.refl _ _⟩
  case round =>
    obtain ⟨k, hk, rfl, HK, hb⟩ := hrel
    by_cases hlt : k < n
    · have d1 : decide ((k : Int) < (n : Int)) = true := by simp; omega
      obtain ⟨x, hx⟩ : ∃ x, L[k]? = some x := ⟨L[k]'(by rw [← HN.out]; exact hlt), List.getElem?_eq_getElem _⟩
      have hx' : (intCells L)[k]? = some (.int .i64 x) := by unfold intCells; rw [List.getElem?_map, hx]; rfl
      obtain ⟨b, o, hA, hbl, hcl⟩ := HL.out.plain (by intro e; rw [e] at hx'; simp at hx')
      subst hA
      have g0 := (hb.cell (p := ⟨b, o + k, none⟩) (Nat.lt_of_lt_of_le hbl hB)).trans (hcl k _ hx')
      have C := HP.out wr x (List.mem_of_getElem? hx) hb
      have HX := Lib.hid hx
      clear hcl hx hx'
      cases ht : p x
      · rw [ht] at C
        have HT := Lib.hid (take_any_no HX.out HK.out ht)
        clear ht
        go_wp2_with (go_at_fn g; ((with_reducible refine (C).mono ?_); rintro e w1 ⟨rfl, b1⟩))
        go_roundw
        case rel => exact ⟨k + 1, by omega, by go_num, HT, hb.trans (b1.mono hb.size)⟩
        case measure => simp [intOf]; omega
      · rw [ht] at C
        have HT := Lib.hid (idxP_at (L := L) (p := p) HX.out HK.out ht)
        clear ht
        go_wp2_with (go_at_fn g; ((with_reducible refine (C).mono ?_); rintro e w1 ⟨rfl, b1⟩))
        go_ret
        exact ⟨by rw [HT.out]; rfl, hb.trans (b1.mono hb.size)⟩
    · have d1 : decide ((k : Int) < (n : Int)) = false := by simp; omega
      have HT := Lib.hid (show idxP p L = -1 from idxP_none (by have := HK.out; rwa [List.take_of_length_le (by have := HN.out; omega)] at this))
      go_wp2
      go_ret
      exact ⟨by rw [HT.out]; rfl, hb⟩
theorem idxP_first {f : Int} : ∀ (G : List Int), (idxP (fun x => x != f) (f :: G) = -1 ∧ (f :: G).any (fun x => x != f) = false) ∨ ∃ m : Nat, idxP (fun x => x != f) (f :: G) = (m : Int) ∧ 1 ≤ m ∧ m < (f :: G).length ∧ (f :: G).any (fun x => x != f) = true := by
  intro G
  have key : ∀ G : List Int, (idxP (fun x => x != f) G = -1 ∧ G.any (fun x => x != f) = false) ∨ ∃ m : Nat, idxP (fun x => x != f) G = (m : Int) ∧ m < G.length ∧ G.any (fun x => x != f) = true := by
    intro G
    induction G with
    | nil => exact .inl ⟨rfl, rfl⟩
    | cons x G ih =>
      unfold idxP
      cases hx : x != f
      · rcases ih with ⟨h1, h2⟩ | ⟨m, h1, h2, h3⟩
        · exact .inl ⟨by simp [h1], by rw [List.any_cons, hx, h2]; rfl⟩
        · refine .inr ⟨m + 1, ?_, by rw [List.length_cons]; omega, by rw [List.any_cons, h3, Bool.or_true]⟩
          rw [h1, if_neg (by simp), if_neg (by omega)]
          rfl
      · exact .inr ⟨0, by simp, by simp, by rw [List.any_cons, hx]; rfl⟩
  have hf : (f != f) = false := by simp
  unfold idxP
  rcases key G with ⟨h1, h2⟩ | ⟨m, h1, h2, h3⟩
  · exact .inl ⟨by simp [h1], by rw [List.any_cons, hf, h2]; rfl⟩
  · refine .inr ⟨m + 1, ?_, by omega, by rw [List.length_cons]; omega, by rw [List.any_cons, h3, Bool.or_true]⟩
    rw [h1, hf, if_neg (by simp), if_neg (by omega)]
    rfl
/-- How many flags are put at once. -/
def runL (f : Int) (F : List Int) : Nat := min (if F.any (fun x => x != f) then (idxP (fun x => x != f) F).toNat else F.length) 256
def pfE : Nat → List Int → List Value
  | 0, _ => []
  | _, [] => []
  | j + 1, f :: F => (if runL f (f :: F) = 1 then be1 f else be1 (bits .or .i64 f 8) ++ be1 ((runL f (f :: F) : Nat) - 1 : Int)) ++ pfE j ((f :: F).drop (runL f (f :: F)))
theorem be1_len (x : Int) : (be1 x).length = 1 := rfl
theorem runL_pos (f : Int) (F : List Int) : 1 ≤ runL f (f :: F) ∧ runL f (f :: F) ≤ (f :: F).length := by
  unfold runL
  rcases idxP_first (f := f) F with ⟨h1, h2⟩ | ⟨m, h1, h2, h3, h4⟩
  · rw [h2, if_neg (by simp), List.length_cons]; omega
  · rw [h4, if_pos rfl, h1, Int.toNat_natCast]; omega
theorem Below.safe {w w' : World} (h : Below w.heap.size w w') : Safe w w' := fun q T cs _ _ _ hb => hb.below h
theorem Safe.then' {w w1 w2 : World} (h : Safe w w1) (k : Safe w1 w2) : Safe w w2 := fun q T cs a b c hb => k q T cs a b c (h q T cs a b c hb)
set_option maxRecDepth 100000 in
theorem pflag1_any (x f : Int) (b : Nat) (w : World) (hl : b < w.heap.size) (hc : w.cell? ⟨b, 0, none⟩ = some (.int .i64 f)) : Calls Try.prog 75 #[.int .i64 x, .pointer (some ⟨b, 0, none⟩)] w fun e w' => e = .returned (.bool (x != f)) ∧ Below w.heap.size w w' := by
  go_enter Try.func75, Try.ntmps75
  go_wp2
  go_ret
  exact ⟨rfl, Below.refl _ _⟩
set_option maxRecDepth 100000 in
set_option maxHeartbeats 2000000 in
theorem pflags_any (w0 : World) (p R : Nat) (W0 : List Value) (A : Option Addr) (c : Nat) (F : List Int) (w : World) (hL : ∀ V, Safe w V → w.heap.size ≤ V.heap.size → Lists V V.heap.size A (intCells F)) (hc : F.length ≤ c) (hn : F.length ≤ 100000) (hW : WS w0 w p R W0) (hx : W0.length + F.length ≤ R) (hR : R ≤ 1099511627776) :
    Calls Try.prog 44 #[.pointer (some ⟨p, 0, none⟩), .slice A F.length c] w fun e w' => e = .returned (.tuple #[]) ∧ WS w0 w' p R (W0 ++ pfE F.length F) ∧ Safe w w' ∧ w.heap.size ≤ w'.heap.size := by
  obtain ⟨Z, hZ⟩ : ∃ Z, Z = W0 ++ pfE F.length F := ⟨_, rfl⟩
  rw [← hZ]
  obtain ⟨n, hnn⟩ : ∃ n, n = F.length := ⟨_, rfl⟩
  rw [← hnn] at hn hx hc hZ ⊢
  have Q0 : Hid ((∀ V, Safe w V → w.heap.size ≤ V.heap.size → Lists V V.heap.size A (intCells F)) ∧ WS w0 w p R W0 ∧ Z = W0 ++ pfE n F ∧ W0.length + n ≤ R ∧ F.length = n) := Lib.hid ⟨hL, hW, hZ, hx, hnn.symm⟩
  clear hL hW hZ hx
  go_enter Try.func44, Try.ntmps44
  go_wp2
  go_loopw [1] (fun v wr => ∃ (A' : Option Addr) (c' m j : Nat) (G : List Int) (E : List Value), v = .slice A' m c' ∧ m ≤ c' ∧ m ≤ j ∧ m ≤ n ∧ w.heap.size ≤ wr.heap.size ∧ Safe w wr ∧ Hid ((∀ V, Safe w V → w.heap.size ≤ V.heap.size → Lists V V.heap.size A' (intCells G)) ∧ WS w0 wr p R E ∧ Z = E ++ pfE j G ∧ E.length + m ≤ R ∧ G.length = m)) (fun v _ => sLenS v)
  case atStart => exact ⟨A, c, n, n, F, W0, rfl, hc, Nat.le_refl _, Nat.le_refl _, Nat.le_refl _, fun _ _ _ _ _ _ h => h, Q0⟩
  case round =>
    clear Q0
    obtain ⟨A', c', m, j, G, E, rfl, hmc, hmj, hmn, hsz, hsf, hQ⟩ := hrel
    cases G with
    | nil =>
      obtain rfl : 0 = m := hQ.out.2.2.2.2
      have HZ := Lib.hid (show Z = E by rw [hQ.out.2.2.1]; cases j <;> simp [pfE])
      go_wp2
      go_end0
      exact ⟨rfl, by rw [HZ.out]; exact hQ.out.2.1, hsf, hsz⟩
    | cons f G =>
      have hm1 : 1 ≤ m := by have := hQ.out.2.2.2.2; rw [List.length_cons] at this; omega
      obtain ⟨j, rfl⟩ : ∃ j', j = j' + 1 := ⟨j - 1, by omega⟩
      have HLI := Lib.hid hQ.out.1
      have HW := Lib.hid hQ.out.2.1
      have hz := hQ.out.2.2.1
      have HX := Lib.hid hQ.out.2.2.2.1
      have HM := Lib.hid hQ.out.2.2.2.2
      obtain ⟨hr1, hr2⟩ := runL_pos f G
      rw [HM.out] at hr2
      rw [pfE] at hz
      have HZ := Lib.hid hz
      have hif := hQ.out.2.2.2.2
      obtain ⟨b, o, rfl, hbl, hcl⟩ := (hQ.out.1 wr hsf hsz).plain (by simp [intCells])
      have g0 : wr.cell? ⟨b, o, none⟩ = some (.int .i64 f) := hcl 0 _ rfl
      have BA := below_a1 wr (.cells #[.int .i64 f] 3)
      have K0 := Lib.hid (Blk.new wr 3 #[.int .i64 f])
      have SA : Safe w (wr.alloc (.cells #[.int .i64 f] 3)) := hsf.then' (Below.safe BA)
      have CI := idxInt_any 75 #[.pointer (some ⟨wr.heap.size, 0, none⟩)] (fun x => x != f) _ _ c' (f :: G) (wr.alloc (.cells #[.int .i64 f] 3)) (Nat.le_refl _) (HLI.out _ SA (Nat.le_trans hsz BA.size)) (by rw [HM.out]; omega) (fun _ _ => rfl) (fun V x _ hV => pflag1_any x f wr.heap.size V (K0.out.below hV).lt ((K0.out.below hV).cell 0))
      rw [HM.out] at CI
      obtain ⟨r, hr⟩ : ∃ r, r = runL f (f :: G) := ⟨_, rfl⟩
      rw [← hr] at hr1 hr2 hz
      have HZ := Lib.hid hz
      have SL := fun V => spslice_okI (some ⟨b, o, none⟩) m c' r hr2 hmc V
      have HLD := Lib.hid (show ∀ V, Safe w V → w.heap.size ≤ V.heap.size → Lists V V.heap.size (if c' = r then some ⟨b, o, none⟩ else (some (⟨b, o, none⟩ : Addr)).map (·.add r)) (intCells ((f :: G).drop r)) from fun V h1 h2 => splists_dropI (HLI.out V h1 h2) r c' (by rw [HM.out]; exact hr2) (by rw [HM.out]; exact hmc))
      have HDL := Lib.hid (show ((f :: G).drop r).length = m - r by rw [List.length_drop, HM.out])
      have hbs := BA.size
      have hzs : (if c' = r then some (⟨b, o, none⟩ : Addr) else (some (⟨b, o, none⟩ : Addr)).map (·.add r)) = (if c' = r then some (⟨b, o, none⟩ : Addr) else (some (⟨b, o, none⟩ : Addr)).map (·.add r)) := rfl
      generalize (if c' = r then some (⟨b, o, none⟩ : Addr) else (some (⟨b, o, none⟩ : Addr)).map (·.add r)) = A2 at SL HLD
      have hru : r = min (if (f :: G).any (fun x => x != f) then (idxP (fun x => x != f) (f :: G)).toNat else m) 256 := by rw [hr, runL, HM.out]
      clear hzs hcl hbl hQ hz hif hr
      rcases idxP_first (f := f) G with ⟨h1, h2⟩ | ⟨x, h1, hx1, hx2, h4⟩
      · rw [h2, if_neg (by simp)] at hru
        rw [h1] at CI
        clear h1 h2
        by_cases h256 : m ≤ 256
        · by_cases h1x : m = 1
          · have hmin : min ((m : Nat) : Int) 256 = 1 := by omega
            obtain rfl : r = 1 := by omega
            have HZ2 := Lib.hid (show Z = (E ++ (be1 f)) ++ pfE j ((f :: G).drop 1) by rw [HZ.out, if_pos rfl, List.append_assoc] <;> (try simp only [List.append_assoc]) <;> (try rfl))
            have SL2 : ∀ V, (Instr.sliceAt 38 (.slice (some ⟨b, o, none⟩) m c') (some (.int .i64 1)) none none).run Try.prog V = .ok (.slice A2 (m - 1) (c' - 1)) V := SL
            clear SL hru HZ
            clear h1x
            clear h256
            go_wp2_with (first | (go_at_call 74; ((with_reducible refine (CI).mono ?_); rintro e w2 ⟨rfl, b2⟩; have hs2 := b2.size; have z2 := (K0.out.below b2).cell 0; have zl := (K0.out.below b2).lt; simp only [List.getElem?_toArray, List.getElem?_cons_zero] at z2)) | (go_at_call 47; ((with_reducible refine (wsU8 w0 _ p R _ _ (HW.out.below (BA.trans (b2.mono BA.size))) (by have := HX.out; omega) hR).mono ?_); rintro e w3 ⟨rfl, hw3, hs3, hz3⟩)) | (go_at_call 47; ((with_reducible refine (wsU8 w0 _ p R _ _ hw3 (by have := HX.out; rw [List.length_append, be1_len]; omega) hR).mono ?_); rintro e w4 ⟨rfl, hw4, hs4, hz4⟩)))
            have BW := BA
            go_roundw
            case rel => exact ⟨A2, c' - 1, m - 1, j, (f :: G).drop 1, E ++ (be1 f), (by first | rfl | (rw [Nat.sub_self]) | simp), by omega, by omega, by omega, by omega, (((SA.then' (Below.safe b2)).then' hs3)), Lib.hid ⟨HLD.out, hw3, HZ2.out, by have := HX.out; simp only [List.length_append, be1_len]; omega, HDL.out⟩⟩
            case measure => simp [sLenS]; omega
          · have hmin : min ((m : Nat) : Int) 256 = (m : Nat) := by omega
            obtain rfl : m = r := by omega
            have HZ2 := Lib.hid (show Z = (E ++ (be1 (bits .or .i64 f 8) ++ be1 ((m : Nat) - 1 : Int))) ++ pfE j ((f :: G).drop m) by rw [HZ.out, if_neg (by omega), List.append_assoc] <;> (try simp only [List.append_assoc]) <;> (try rfl))
            have SL2 : ∀ V, (Instr.sliceAt 38 (.slice (some ⟨b, o, none⟩) m c') (some (.int .i64 (m : Nat))) none none).run Try.prog V = .ok (.slice A2 (m - m) (c' - m)) V := SL
            clear SL hru HZ
            have d3 : ¬ ((m : Nat) : Int) = 1 := by omega
            clear h1x
            clear h256
            go_wp2_with (first | (go_at_call 74; ((with_reducible refine (CI).mono ?_); rintro e w2 ⟨rfl, b2⟩; have hs2 := b2.size; have z2 := (K0.out.below b2).cell 0; have zl := (K0.out.below b2).lt; simp only [List.getElem?_toArray, List.getElem?_cons_zero] at z2)) | (go_at_call 47; ((with_reducible refine (wsU8 w0 _ p R _ _ (HW.out.below (BA.trans (b2.mono BA.size))) (by have := HX.out; omega) hR).mono ?_); rintro e w3 ⟨rfl, hw3, hs3, hz3⟩)) | (go_at_call 47; ((with_reducible refine (wsU8 w0 _ p R _ _ hw3 (by have := HX.out; rw [List.length_append, be1_len]; omega) hR).mono ?_); rintro e w4 ⟨rfl, hw4, hs4, hz4⟩)))
            have BW := BA
            go_roundw
            case rel => exact ⟨A2, c' - m, m - m, j, (f :: G).drop m, E ++ (be1 (bits .or .i64 f 8) ++ be1 ((m : Nat) - 1 : Int)), (by first | rfl | (rw [Nat.sub_self]) | simp), by omega, by omega, by omega, by omega, (((SA.then' (Below.safe b2)).then' hs3).then' hs4), Lib.hid ⟨HLD.out, (by rw [← List.append_assoc]; exact hw4), HZ2.out, by have := HX.out; simp only [List.length_append, be1_len]; omega, HDL.out⟩⟩
            case measure => simp [sLenS]; omega
        · have hmin : min ((m : Nat) : Int) 256 = 256 := by omega
          obtain rfl : r = 256 := by omega
          have HZ2 := Lib.hid (show Z = (E ++ (be1 (bits .or .i64 f 8) ++ be1 (255))) ++ pfE j ((f :: G).drop 256) by rw [HZ.out, if_neg (by omega), List.append_assoc] <;> (try simp only [List.append_assoc]) <;> (try rfl))
          have SL2 : ∀ V, (Instr.sliceAt 38 (.slice (some ⟨b, o, none⟩) m c') (some (.int .i64 256)) none none).run Try.prog V = .ok (.slice A2 (m - 256) (c' - 256)) V := SL
          clear SL hru HZ

          clear h256
          go_wp2_with (first | (go_at_call 74; ((with_reducible refine (CI).mono ?_); rintro e w2 ⟨rfl, b2⟩; have hs2 := b2.size; have z2 := (K0.out.below b2).cell 0; have zl := (K0.out.below b2).lt; simp only [List.getElem?_toArray, List.getElem?_cons_zero] at z2)) | (go_at_call 47; ((with_reducible refine (wsU8 w0 _ p R _ _ (HW.out.below (BA.trans (b2.mono BA.size))) (by have := HX.out; omega) hR).mono ?_); rintro e w3 ⟨rfl, hw3, hs3, hz3⟩)) | (go_at_call 47; ((with_reducible refine (wsU8 w0 _ p R _ _ hw3 (by have := HX.out; rw [List.length_append, be1_len]; omega) hR).mono ?_); rintro e w4 ⟨rfl, hw4, hs4, hz4⟩)))
          have BW := BA
          go_roundw
          case rel => exact ⟨A2, c' - 256, m - 256, j, (f :: G).drop 256, E ++ (be1 (bits .or .i64 f 8) ++ be1 (255)), (by first | rfl | (rw [Nat.sub_self]) | simp), by omega, by omega, by omega, by omega, (((SA.then' (Below.safe b2)).then' hs3).then' hs4), Lib.hid ⟨HLD.out, (by rw [← List.append_assoc]; exact hw4), HZ2.out, by have := HX.out; simp only [List.length_append, be1_len]; omega, HDL.out⟩⟩
          case measure => simp [sLenS]; omega
      · rw [h4, if_pos rfl, h1, Int.toNat_natCast] at hru
        rw [h1] at CI
        rw [HM.out] at hx2
        clear h1 h4
        by_cases h256 : x ≤ 256
        · by_cases h1x : x = 1
          · have hmin : min ((x : Nat) : Int) 256 = 1 := by omega
            obtain rfl : r = 1 := by omega
            have HZ2 := Lib.hid (show Z = (E ++ (be1 f)) ++ pfE j ((f :: G).drop 1) by rw [HZ.out, if_pos rfl, List.append_assoc] <;> (try simp only [List.append_assoc]) <;> (try rfl))
            have SL2 : ∀ V, (Instr.sliceAt 38 (.slice (some ⟨b, o, none⟩) m c') (some (.int .i64 1)) none none).run Try.prog V = .ok (.slice A2 (m - 1) (c' - 1)) V := SL
            clear SL hru HZ
            clear h1x
            clear h256
            go_wp2_with (first | (go_at_call 74; ((with_reducible refine (CI).mono ?_); rintro e w2 ⟨rfl, b2⟩; have hs2 := b2.size; have z2 := (K0.out.below b2).cell 0; have zl := (K0.out.below b2).lt; simp only [List.getElem?_toArray, List.getElem?_cons_zero] at z2)) | (go_at_call 47; ((with_reducible refine (wsU8 w0 _ p R _ _ (HW.out.below (BA.trans (b2.mono BA.size))) (by have := HX.out; omega) hR).mono ?_); rintro e w3 ⟨rfl, hw3, hs3, hz3⟩)) | (go_at_call 47; ((with_reducible refine (wsU8 w0 _ p R _ _ hw3 (by have := HX.out; rw [List.length_append, be1_len]; omega) hR).mono ?_); rintro e w4 ⟨rfl, hw4, hs4, hz4⟩)))
            have BW := BA
            go_roundw
            case rel => exact ⟨A2, c' - 1, m - 1, j, (f :: G).drop 1, E ++ (be1 f), (by first | rfl | (rw [Nat.sub_self]) | simp), by omega, by omega, by omega, by omega, (((SA.then' (Below.safe b2)).then' hs3)), Lib.hid ⟨HLD.out, hw3, HZ2.out, by have := HX.out; simp only [List.length_append, be1_len]; omega, HDL.out⟩⟩
            case measure => simp [sLenS]; omega
          · have hmin : min ((x : Nat) : Int) 256 = (x : Nat) := by omega
            obtain rfl : x = r := by omega
            have HZ2 := Lib.hid (show Z = (E ++ (be1 (bits .or .i64 f 8) ++ be1 ((x : Nat) - 1 : Int))) ++ pfE j ((f :: G).drop x) by rw [HZ.out, if_neg (by omega), List.append_assoc] <;> (try simp only [List.append_assoc]) <;> (try rfl))
            have SL2 : ∀ V, (Instr.sliceAt 38 (.slice (some ⟨b, o, none⟩) m c') (some (.int .i64 (x : Nat))) none none).run Try.prog V = .ok (.slice A2 (m - x) (c' - x)) V := SL
            clear SL hru HZ
            have d3 : ¬ ((x : Nat) : Int) = 1 := by omega
            clear h1x
            clear h256
            go_wp2_with (first | (go_at_call 74; ((with_reducible refine (CI).mono ?_); rintro e w2 ⟨rfl, b2⟩; have hs2 := b2.size; have z2 := (K0.out.below b2).cell 0; have zl := (K0.out.below b2).lt; simp only [List.getElem?_toArray, List.getElem?_cons_zero] at z2)) | (go_at_call 47; ((with_reducible refine (wsU8 w0 _ p R _ _ (HW.out.below (BA.trans (b2.mono BA.size))) (by have := HX.out; omega) hR).mono ?_); rintro e w3 ⟨rfl, hw3, hs3, hz3⟩)) | (go_at_call 47; ((with_reducible refine (wsU8 w0 _ p R _ _ hw3 (by have := HX.out; rw [List.length_append, be1_len]; omega) hR).mono ?_); rintro e w4 ⟨rfl, hw4, hs4, hz4⟩)))
            have BW := BA
            go_roundw
            case rel => exact ⟨A2, c' - x, m - x, j, (f :: G).drop x, E ++ (be1 (bits .or .i64 f 8) ++ be1 ((x : Nat) - 1 : Int)), (by first | rfl | (rw [Nat.sub_self]) | simp), by omega, by omega, by omega, by omega, (((SA.then' (Below.safe b2)).then' hs3).then' hs4), Lib.hid ⟨HLD.out, (by rw [← List.append_assoc]; exact hw4), HZ2.out, by have := HX.out; simp only [List.length_append, be1_len]; omega, HDL.out⟩⟩
            case measure => simp [sLenS]; omega
        · have hmin : min ((x : Nat) : Int) 256 = 256 := by omega
          obtain rfl : r = 256 := by omega
          have HZ2 := Lib.hid (show Z = (E ++ (be1 (bits .or .i64 f 8) ++ be1 (255))) ++ pfE j ((f :: G).drop 256) by rw [HZ.out, if_neg (by omega), List.append_assoc] <;> (try simp only [List.append_assoc]) <;> (try rfl))
          have SL2 : ∀ V, (Instr.sliceAt 38 (.slice (some ⟨b, o, none⟩) m c') (some (.int .i64 256)) none none).run Try.prog V = .ok (.slice A2 (m - 256) (c' - 256)) V := SL
          clear SL hru HZ

          clear h256
          go_wp2_with (first | (go_at_call 74; ((with_reducible refine (CI).mono ?_); rintro e w2 ⟨rfl, b2⟩; have hs2 := b2.size; have z2 := (K0.out.below b2).cell 0; have zl := (K0.out.below b2).lt; simp only [List.getElem?_toArray, List.getElem?_cons_zero] at z2)) | (go_at_call 47; ((with_reducible refine (wsU8 w0 _ p R _ _ (HW.out.below (BA.trans (b2.mono BA.size))) (by have := HX.out; omega) hR).mono ?_); rintro e w3 ⟨rfl, hw3, hs3, hz3⟩)) | (go_at_call 47; ((with_reducible refine (wsU8 w0 _ p R _ _ hw3 (by have := HX.out; rw [List.length_append, be1_len]; omega) hR).mono ?_); rintro e w4 ⟨rfl, hw4, hs4, hz4⟩)))
          have BW := BA
          go_roundw
          case rel => exact ⟨A2, c' - 256, m - 256, j, (f :: G).drop 256, E ++ (be1 (bits .or .i64 f 8) ++ be1 (255)), (by first | rfl | (rw [Nat.sub_self]) | simp), by omega, by omega, by omega, by omega, (((SA.then' (Below.safe b2)).then' hs3).then' hs4), Lib.hid ⟨HLD.out, (by rw [← List.append_assoc]; exact hw4), HZ2.out, by have := HX.out; simp only [List.length_append, be1_len]; omega, HDL.out⟩⟩
          case measure => simp [sLenS]; omega
end Go.Proofs.Ytelhckckcilpaaa

namespace Go.Proofs.Ytelhckckcilpaaa
open Go Go.RowKit
set_option linter.unusedVariables false
set_option linter.unusedSimpArgs false

/-- The bytes of steps along an axis. -/
def stB (j1 j2 : Nat) : List Nat → List Int → List Value
  | f :: F, x :: X => (if bt f j1 then (if bt f j2 then be1 x else be1 (-x)) else if bt f j2 then [] else be2 x) ++ stB j1 j2 F X
  | _, _ => []
theorem stB_len (j1 j2 : Nat) : ∀ (F : List Nat) (X : List Int), (stB j1 j2 F X).length ≤ 2 * F.length
  | [], _ => Nat.zero_le _
  | _ :: _, [] => Nat.zero_le _
  | f :: F, x :: X => by
    have ih := stB_len j1 j2 F X
    rw [stB, List.length_append, List.length_cons]
    have : (if bt f j1 then (if bt f j2 then be1 x else be1 (-x)) else if bt f j2 then [] else be2 x).length ≤ 2 := by
      split
      · split <;> simp [be1_len]
      · split <;> simp [be2_len]
    omega
theorem pst_ok {R : Nat} {L E : List Value} (h : L.length + E.length ≤ R) : pst R (false, L) E = (false, L ++ E) := by
  unfold pst
  have e1 : putF R false L E = false := by unfold putF; simp; exact h
  simp only [e1]
  unfold putL
  rw [e1, if_neg (by simp)]
theorem carr_w (R j1 j2 : Nat) : ∀ (F : List Nat) (X : List Int) (L : List Value), F.length = X.length → L.length + (stB j1 j2 F X).length ≤ R →
    carr (fun (s : WSt) v => (v, pst R s (be1 v))) (fun s v => (v, pst R s (be2 v))) j1 j2 F X (false, L) = (X, (false, L ++ stB j1 j2 F X))
  | [], X, L, h, _ => by simp [carr, stB]
  | _ :: _, [], L, h, _ => by simp at h
  | f :: F, x :: X, L, h, hR => by
    rw [stB, List.length_append] at hR
    have e : stepC (fun (s : WSt) v => (v, pst R s (be1 v))) (fun s v => (v, pst R s (be2 v))) j1 j2 f x (false, L) = (x, (false, L ++ (if bt f j1 then (if bt f j2 then be1 x else be1 (-x)) else if bt f j2 then [] else be2 x))) := by
      unfold stepC
      split
      · rename_i h1
        rw [if_pos h1] at hR
        split
        · rename_i h2
          rw [if_pos h2] at hR
          dsimp only
          rw [pst_ok (by omega)]
        · rename_i h2
          rw [if_neg h2] at hR
          dsimp only
          rw [pst_ok (by omega)]
          simp
      · rename_i h1
        rw [if_neg h1] at hR
        split
        · simp
        · rename_i h2
          rw [if_neg h2] at hR
          dsimp only
          rw [pst_ok (by omega)]
    rw [carr, e]
    dsimp only
    rw [carr_w R j1 j2 F X _ (by simpa using h) (by rw [List.length_append]; omega), stB, List.append_assoc]
theorem pfE_len : ∀ (j : Nat) (F : List Int), (pfE j F).length ≤ F.length
  | 0, _ => Nat.zero_le _
  | j + 1, [] => Nat.zero_le _
  | j + 1, f :: F => by
    obtain ⟨h1, h2⟩ := runL_pos f F
    have ih := pfE_len j ((f :: F).drop (runL f (f :: F)))
    rw [List.length_drop] at ih
    rw [pfE, List.length_append]
    split
    · rename_i h; rw [be1_len]; omega
    · rename_i h; rw [List.length_append, be1_len, be1_len]; omega
def isCub (p : Pt) : Bool := p.2.2 == 3
def boxB (Ls : List (List Pt)) : List Value := be2 ((boxO Ls).x0.tdiv 65536) ++ be2 ((boxO Ls).y0.tdiv 65536) ++ be2 ((boxO Ls).x1.tdiv 65536) ++ be2 ((boxO Ls).y1.tdiv 65536)
/-- The bytes of an outline that may be, of whose points these are the steps. -/
def spB (Ls : List (List Pt)) (X Y : List Int) : List Value :=
  ((((be2 (Ls.length : Nat) ++ boxB Ls) ++ lastsE 0 Ls) ++ be2 0) ++ pfE (fgsE Ls.flatten X Y).length ((fgsE Ls.flatten X Y).map (fun (f : Nat) => (f : Int)))) ++ (stB 1 4 (fgsE Ls.flatten X Y) X ++ stB 2 5 (fgsE Ls.flatten X Y) Y)
/-- What Encode answers: the error, and the bytes. -/
def encS (Ls : List (List Pt)) : Int × List Value :=
  if chkE Ls = 0 then
    match stpE (fun p => p.1) Ls.flatten 0, stpE (fun p => p.2.1) Ls.flatten 0 with
    | some X, some Y => if Ls.flatten.any isCub then (1, []) else if Ls = [] then (0, []) else (0, spB Ls X Y)
    | _, _ => (1, [])
  else (chkE Ls, [])
set_option maxRecDepth 100000 in
theorem isCub_any (p : Pt) (w : World) : Calls Try.prog 37 #[.agg #[.int .i64 p.1, .int .i64 p.2.1, .int .i64 p.2.2]] w fun e w' => e = .returned (.bool (isCub p)) ∧ Below w.heap.size w w' := by
  obtain ⟨x, y, z⟩ := p
  unfold isCub
  dsimp only
  go_enter Try.func37, Try.ntmps37
  go_wp2
  go_ret
  exact ⟨rfl, below_a1 _ _⟩
set_option maxRecDepth 100000 in
theorem idxPt_any (B : Nat) (A : Option Addr) (c : Nat) (L : List Pt) (w : World) (hB : B ≤ w.heap.size) (h : Lists w B A (ptCells L)) (hn : L.length ≤ 10000000) :
    Calls Try.prog 70 #[.slice A L.length c, .func (.func 37) #[] #[]] w fun e w' => e = .returned (.int .i64 (idxP isCub L)) ∧ Below w.heap.size w w' := by
  have HL := Lib.hid h
  clear h
  obtain ⟨n, hnn⟩ : ∃ n, n = L.length := ⟨_, rfl⟩
  rw [← hnn] at hn ⊢
  have HN := Lib.hid hnn
  clear hnn
  go_enter Try.func70, Try.ntmps70
  go_wp2
  go_loopw [8] (fun i wr => ∃ k : Nat, k ≤ n ∧ i = .int .i64 k ∧ Hid ((L.take k).any isCub = false) ∧ Below w.heap.size w wr) (fun i _ => n - (intOf i).toNat)
  case atStart => exact ⟨0, Nat.zero_le _, rfl, Lib.hid rfl, Below.refl _ _⟩
  case round =>
    obtain ⟨k, hk, rfl, HK, hb⟩ := hrel
    by_cases hlt : k < n
    · have d1 : decide ((k : Int) < (n : Int)) = true := by simp; omega
      obtain ⟨⟨x, y, z⟩, hp⟩ := at_some (L := L) (k := k) (by rw [← HN.out]; exact hlt)
      obtain ⟨b, o, rfl, hbl, c0, c1, c2⟩ := lists_pt HL.out hp
      have g0 := (hb.cell (p := ⟨b, o + k * 3, none⟩) (Nat.lt_of_lt_of_le hbl hB)).trans c0
      have g1 := (hb.cell (p := ⟨b, o + k * 3 + 1, none⟩) (Nat.lt_of_lt_of_le hbl hB)).trans c1
      have g2 := (hb.cell (p := ⟨b, o + k * 3 + 2, none⟩) (Nat.lt_of_lt_of_le hbl hB)).trans c2
      have g3 : b < wr.heap.size := by have := hb.size; omega
      simp only at g0 g1 g2
      have C := isCub_any (x, y, z) wr
      have HX := Lib.hid hp
      clear c0 c1 c2 hp
      cases hz : isCub (x, y, z)
      · rw [hz] at C
        have HT := Lib.hid (take_any_no HX.out HK.out hz)
        clear hz
        go_wp2_with (first | (go_at_call 37; ((with_reducible refine (C).mono ?_); rintro e w1 ⟨rfl, b1⟩)))
        go_roundw
        case rel => exact ⟨k + 1, by omega, by go_num, HT, hb.trans (b1.mono hb.size)⟩
        case measure => simp [intOf]; omega
      · rw [hz] at C
        have HT := Lib.hid (idxP_at HX.out HK.out hz)
        clear hz
        go_wp2_with (first | (go_at_call 37; ((with_reducible refine (C).mono ?_); rintro e w1 ⟨rfl, b1⟩)))
        go_ret
        exact ⟨by rw [HT.out]; rfl, hb.trans (b1.mono hb.size)⟩
    · have d1 : decide ((k : Int) < (n : Int)) = false := by simp; omega
      have HT := Lib.hid (idxP_none (p := isCub) (show L.any isCub = false by have := HK.out; rwa [List.take_of_length_le (by have := HN.out; omega)] at this))
      go_wp2
      go_ret
      exact ⟨by rw [HT.out]; rfl, hb⟩
theorem spidxP_any {α : Type} (p : α → Bool) : ∀ L : List α, decide (idxP p L ≥ 0) = L.any p
  | [] => rfl
  | x :: L => by
    have e := spidxP_any p L
    unfold idxP
    rw [List.any_cons]
    cases p x
    · rw [if_neg (by simp), Bool.false_or, ← e]
      by_cases h : idxP p L < 0
      · rw [if_pos h]; rw [decide_eq_false (by omega), decide_eq_false (by omega)]
      · rw [if_neg h]; rw [decide_eq_true (by omega), decide_eq_true (by omega)]
    · rfl
set_option maxRecDepth 100000 in
theorem hasCub_any (A : Option Addr) (c n : Nat) (L : List Pt) (w : World) (h : Lists w w.heap.size A (ptCells L)) (hL : L.length = n) (hn : n ≤ 10000000) :
    Calls Try.prog 36 #[.slice A n c, .func (.func 37) #[] #[]] w fun e w' => e = .returned (.bool (L.any isCub)) ∧ Below w.heap.size w w' := by
  subst hL
  have C := idxPt_any _ A c L w (Nat.le_refl _) h hn
  have e := spidxP_any isCub L
  rw [← e]
  generalize idxP isCub L = k at *
  generalize L.length = n at *
  clear h hn e
  go_enter Try.func36, Try.ntmps36
  go_wp2_with (go_at_call 70; ((with_reducible refine (C).mono ?_); rintro e w1 ⟨rfl, b1⟩))
  go_ret
  exact ⟨rfl, b1⟩
end Go.Proofs.Ytelhckckcilpaaa
