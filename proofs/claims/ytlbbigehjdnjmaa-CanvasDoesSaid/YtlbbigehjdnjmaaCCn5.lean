/- Part 6 of the proof: CnC, CnD. -/
import Derived.Test.YtlbbigehjdnjmaaCCn4

namespace Go.Proofs.Ytlbbigehjdnjmaa
open Go Go.RowKit
set_option linter.unusedVariables false
set_option linter.unusedSimpArgs false

/-- The canvas at block q, its bytes at block g. -/
structure CnV (W : World) (q g wd ht : Nat) (E : List Value) : Prop where
  blk : Blk W q 63 #[.int .i64 0, .int .i64 0, .int .i64 (wd : Nat), .int .i64 (ht : Nat), .slice (some ⟨g, 0, none⟩) (wd * ht) (wd * ht)]
  row : Blk W g 5 E.toArray
  len : E.length = wd * ht
  b8 : Bytes8 E
  dim : (1 ≤ wd ∧ wd ≤ 4096) ∧ 1 ≤ ht ∧ ht ≤ 4096
theorem cnblk_ne {w : World} {b p : Nat} {T T1 : TypeId} {cs cs1 : Array Value} (h : Blk w b T cs) (k : Blk w p T1 cs1) (hT : T ≠ T1) : b ≠ p := by
  rintro rfl
  unfold Blk at h k
  rw [h] at k
  cases k
  exact hT rfl
theorem CnV.ne {W : World} {q g wd ht : Nat} {E : List Value} (h : CnV W q g wd ht E) : q ≠ g := cnblk_ne h.blk h.row (by decide)
theorem CnV.below {W V : World} {q g wd ht : Nat} {E : List Value} (h : CnV W q g wd ht E) (b : Below W.heap.size W V) : CnV V q g wd ht E := ⟨h.blk.below b, h.row.below b, h.len, h.b8, h.dim⟩
theorem CnV.only {W V : World} {q g wd ht : Nat} {E : List Value} {fp : List Nat} (h : CnV W q g wd ht E) (o : Only W V fp) (h1 : q ∉ fp) (h2 : g ∉ fp) : CnV V q g wd ht E := ⟨h.blk.only o h1, h.row.only o h2, h.len, h.b8, h.dim⟩
theorem CnV.sq {W : World} {q g wd ht : Nat} {E : List Value} (h : CnV W q g wd ht E) : wd * ht ≤ 16777216 := by
  have := Nat.mul_le_mul h.dim.1.2 h.dim.2.2
  omega
/-- Rows Y0 .. of columns X0 .. X1 are others. -/
def rowsR (wd X0 X1 Y0 : Nat) (f : Nat → Nat → Value → Value) : Nat → List Value → List Value
  | 0, E => E
  | n + 1, E => mapR ((Y0 + n) * wd + X0) ((Y0 + n) * wd + X1) (f (Y0 + n)) (rowsR wd X0 X1 Y0 f n E)
theorem rowsR_len (wd X0 X1 Y0 : Nat) (f : Nat → Nat → Value → Value) (E : List Value) : ∀ n, (rowsR wd X0 X1 Y0 f n E).length = E.length
  | 0 => rfl
  | n + 1 => by rw [rowsR, mapR_len, rowsR_len wd X0 X1 Y0 f E n]
def KeepB (f : Nat → Nat → Value → Value) (wd X0 X1 Y0 Y1 : Nat) : Prop := ∀ y k d, Y0 ≤ y → y < Y1 → y * wd + X0 ≤ k → k < y * wd + X1 → (∃ x : Nat, x < 256 ∧ d = .int .u8 (x : Int)) → ∃ x : Nat, x < 256 ∧ f y k d = .int .u8 (x : Int)
theorem rowsR_bytes {wd X0 X1 Y0 Y1 : Nat} {f : Nat → Nat → Value → Value} {E : List Value} (h8 : Bytes8 E) (hf : KeepB f wd X0 X1 Y0 Y1) : ∀ n, Y0 + n ≤ Y1 → Bytes8 (rowsR wd X0 X1 Y0 f n E)
  | 0, _ => h8
  | n + 1, hn => mapR_bytes (rowsR_bytes h8 hf n (by omega)) fun k d h1 h2 hd => hf (Y0 + n) k d (by omega) (by omega) h1 h2 hd
theorem slice_cn (g n a b : Nat) (h1 : a < b) (h2 : b ≤ n) (w : World) : (Instr.sliceAt 33 (.slice (some ⟨g, 0, none⟩) n n) (some (.int .i64 (a : Nat))) (some (.int .i64 (b : Nat))) none).run Try.prog w = .ok (.slice (some ⟨g, a, none⟩) (b - a) (n - a)) w := by
  have hu := Try.underlying33
  have hz := Try.sizeOf5
  have i1 : (0 : Int) ≤ (b : Int) := by omega
  have i2 : (b : Int) ≤ (n : Int) := by omega
  have i3 : (0 : Int) ≤ (a : Int) := by omega
  have i4 : (a : Int) ≤ (b : Int) := by omega
  have i5 : a ≤ b := by omega
  have i6 : ¬ n = a := by omega
  simp [Instr.sliceAt, Instr.slice, Instr.sliceBounds, Instr.sliceBound, run_underlying hu, Sem.run_bind, Sem.run_pure, Result.andThen, asIntOf, hz, i1, i3, h2, i5, i6, addr_plain]
theorem bxInfo : (Try.prog.info? 32).map (·.size) = some 4 := by kernel_rfl
/-- What do does with row y. -/
def DoRow (I : World → Prop) (fn : FuncId) (lb : Array Value) (g wd ht X0 X1 : Nat) (f : Nat → Nat → Value → Value) (y : Nat) : Prop :=
  ∀ (V : World) (E : List Value), I V → Blk V g 5 E.toArray → E.length = wd * ht → Bytes8 E →
    Calls Try.prog fn (#[.slice (some ⟨g, y * wd + X0, none⟩) (y * wd + X1 - (y * wd + X0)) (wd * ht - (y * wd + X0)), .int .i64 (X0 : Nat), .int .i64 (y : Nat)] ++ lb) V fun e w' => e = .returned (.tuple #[]) ∧ Blk w' g 5 (mapR (y * wd + X0) (y * wd + X1) (f y) E).toArray ∧ Only V w' [g]
theorem w64n {x : Int} (h0 : 0 ≤ x) (h1 : x ≤ 4611686018427387904) : wrap64 x = x := by unfold wrap64; omega
theorem w64sum (a b : Nat) (h : a + b ≤ 4611686018427387904) : wrap64 ((a : Int) + (b : Int)) = ((a + b : Nat) : Int) := by rw [w64n (by omega) (by omega)]; push_cast; rfl
theorem w64sumk (a b : Nat) (h : a + b ≤ 4611686018427387904) : IntKind.i64.wrap ((a : Int) + (b : Int)) = ((a + b : Nat) : Int) := by rw [IntWalk.i64_in _ (by omega)]; push_cast; rfl
theorem w64one (a : Nat) (h : a ≤ 4611686018427387903) : wrap64 ((a : Int) + 1) = ((a + 1 : Nat) : Int) := by rw [w64n (by omega) (by omega)]; push_cast; rfl
theorem w64mul (a b : Nat) (h : a * b ≤ 4611686018427387904) : wrap64 ((a : Int) * (b : Int)) = ((a * b : Nat) : Int) := by rw [← Int.natCast_mul]; exact w64n (by omega) (by omega)
theorem only_cell {w V : World} {fp : List Nat} (o : Only w V fp) {p : Addr} (hp : p.block < w.heap.size) (hn : p.block ∉ fp) : V.cell? p = w.cell? p := World.cell?_of_block (o.block p.block hp hn)
set_option maxRecDepth 100000 in
set_option maxHeartbeats 2000000 in
theorem cneach_any (q g wd ht : Nat) (E : List Value) (B : Q) (fn : FuncId) (lb : Array Value) (f : Nat → Nat → Value → Value) (X0 Y0 X1 Y1 : Nat) (I : World → Prop) (w : World)
    (eg : ∀ args w, (callFunc fn args).run Try.prog w = .ok (.enter fn args) w)
    (h : CnV w q g wd ht E) (hB : mayQ B = true) (hR : meetR ⟨0, 0, wd, ht⟩ B = ⟨X0, Y0, X1, Y1⟩) (hX : X0 ≤ X1 ∧ X1 ≤ wd ∧ (Y0 < Y1 → X0 < X1)) (hY : Y0 ≤ Y1 ∧ Y1 ≤ ht)
    (hI : I w) (hIK : ∀ V V', I V → Only V V' [g] → I V') (hdo : ∀ y, Y0 ≤ y → y < Y1 → DoRow I fn lb g wd ht X0 X1 f y) (hkb : KeepB f wd X0 X1 Y0 Y1) :
    Calls Try.prog 28 #[.pointer (some ⟨q, 0, none⟩), .agg #[.int .i64 B.x0, .int .i64 B.y0, .int .i64 B.x1, .int .i64 B.y1], .func (.func fn) #[] lb] w fun e w' => e = .returned (.agg #[.int .i64 (X0 : Nat), .int .i64 (Y0 : Nat), .int .i64 (X1 : Nat), .int .i64 (Y1 : Nat)]) ∧ CnV w' q g wd ht (rowsR wd X0 X1 Y0 f (Y1 - Y0) E) ∧ Only w w' [g] := by
  obtain ⟨B0, hB0⟩ : ∃ B0 : Q, B0 = ⟨0, 0, wd, ht⟩ := ⟨_, rfl⟩
  have hmB0 : mayQ B0 = true := by
    have := h.dim
    rw [hB0]; simp [mayQ, mayB]; omega
  have CM := fun W => meet_any B0 B W hmB0 hB
  rw [hB0] at CM
  rw [hR] at CM
  dsimp only at CM
  have HSQ := Lib.hid h.sq
  have hw2 : Below w.heap.size w ((w.alloc (.cells #[.int .i64 B.x0, .int .i64 B.y0, .int .i64 B.x1, .int .i64 B.y1] 32)).alloc (.cells #[.int .i64 0, .int .i64 0, .int .i64 0, .int .i64 0] 32)) := below_a2 _ _ _
  have HC2 := Lib.hid (h.below hw2)
  have HI2 := Lib.hid (hIK _ _ hI (Only.of_below hw2 _))
  have K4 := (Blk.new w 32 #[.int .i64 B.x0, .int .i64 B.y0, .int .i64 B.x1, .int .i64 B.y1]).below (below_a1 _ (.cells #[.int .i64 0, .int .i64 0, .int .i64 0, .int .i64 0] 32))
  have K6 := Blk.new (w.alloc (.cells #[.int .i64 B.x0, .int .i64 B.y0, .int .i64 B.x1, .int .i64 B.y1] 32)) 32 #[.int .i64 0, .int .i64 0, .int .i64 0, .int .i64 0]
  have HIK := Lib.hid hIK
  have HDO := Lib.hid hdo
  have HKB := Lib.hid hkb
  have HX := Lib.hid hX
  have HY := Lib.hid hY
  have HW := Lib.hid h
  clear h hI hIK hdo hkb hB hR hmB0 hB0 hX hY
  have hn6 : q ≠ w.heap.size + 1 ∧ g ≠ w.heap.size + 1 := by
    have h1 := HW.out.blk.lt
    have h2 := HW.out.row.lt
    omega
  have HNQ := Lib.hid hn6
  rw [World.size_alloc] at K6
  clear hn6
  obtain ⟨w2, hw2e⟩ : ∃ w2, w2 = ((w.alloc (.cells #[.int .i64 B.x0, .int .i64 B.y0, .int .i64 B.x1, .int .i64 B.y1] 32)).alloc (.cells #[.int .i64 0, .int .i64 0, .int .i64 0, .int .i64 0] 32)) := ⟨_, rfl⟩
  rw [← hw2e] at HC2 HI2 K4 K6 hw2
  have rb := HC2.out.blk
  have a0 := rb.cell 0; have a1 := rb.cell 1; have a2 := rb.cell 2; have a3 := rb.cell 3; have a4 := rb.cell 4; have al := rb.lt
  have k0 := K4.cell 0; have k1 := K4.cell 1; have k2 := K4.cell 2; have k3 := K4.cell 3; have kl := K4.lt
  simp only [List.getElem?_toArray, List.getElem?_cons_succ, List.getElem?_cons_zero] at a0 a1 a2 a3 a4 k0 k1 k2 k3
  have HD := Lib.hid (fun (X : World) (hX : Below w2.heap.size w2 X) => And.intro ((hX.cell (p := ⟨q, 0, none⟩) al).trans a0) (And.intro ((hX.cell (p := ⟨q, 1, none⟩) al).trans a1) (And.intro ((hX.cell (p := ⟨q, 2, none⟩) al).trans a2) (And.intro ((hX.cell (p := ⟨q, 3, none⟩) al).trans a3) (And.intro ((hX.cell (p := ⟨q, 4, none⟩) al).trans a4) (And.intro (Nat.lt_of_lt_of_le al hX.size) (And.intro ((hX.cell (p := ⟨w.heap.size, 0, none⟩) kl).trans k0) (And.intro ((hX.cell (p := ⟨w.heap.size, 1, none⟩) kl).trans k1) (And.intro ((hX.cell (p := ⟨w.heap.size, 2, none⟩) kl).trans k2) (And.intro ((hX.cell (p := ⟨w.heap.size, 3, none⟩) kl).trans k3) (Nat.lt_of_lt_of_le kl hX.size)))))))))))
  have HK6 := Lib.hid K6
  have HW2 := Lib.hid hw2
  have HW2E := Lib.hid hw2e
  clear rb a0 a1 a2 a3 a4 al k0 k1 k2 k3 kl K4 K6 hw2 hw2e
  go_enter Try.func28, Try.ntmps28
  go_wp2
  rw [← HW2E.out]
  have hI : Below w2.heap.size w2 w2.drew := (Below.refl _ _).drew
  refine wp_region_mix (fun V => Below w2.heap.size w2 V) (Mx.qs [0, 1, 2, 3, 4] (.two 5 9 (Mx.qs [6, 7, 8] (.one 9 (.one 10 (.q 11 .leaf)))) (.one 5 (Mx.qs [6, 7, 8] (.one 10 (.q 11 .leaf)))))) (by kernel_rfl) (by kernel_rfl) hI ?_
  simp only [Mx.qs]
  repeat (first
    | (refine MixL.skip (o := ?_) ?_ ?_ ?_; rotate_left; (focus (first | (simp only [List.getElem?_toArray, List.getElem?_cons_succ, List.getElem?_cons_zero]; with_reducible rfl) | (simp only [List.getElem?_toArray, List.getElem?_cons_zero]; with_reducible rfl))); (focus rfl); simp only [Act.put, List.setIfInBounds_toArray, List.set_cons_zero, List.set_cons_succ])
    | (refine MixL.val (o := ?_) (v := ?_) ?_ ?_ ?_ ?_ ?_; rotate_left 2; (focus (first | (simp only [List.getElem?_toArray, List.getElem?_cons_succ, List.getElem?_cons_zero]; with_reducible rfl) | (simp only [List.getElem?_toArray, List.getElem?_cons_zero]; with_reducible rfl))); (focus (intro _ _ h; cases h)); (focus rfl); (focus (intro w' hJ; obtain ⟨c0, c1, c2, c3, c4, cl, d0, d1, d2, d3, dl⟩ := HD.out _ hJ; go_simp <;> with_reducible rfl)); simp only [Act.put, List.setIfInBounds_toArray, List.set_cons_zero, List.set_cons_succ]))
  refine MixL.both ?_ ?_
  · refine MixL.call (o := ?_) (f := ?_) (args := ?_) ?_ ?_ ?_ ?_
    rotate_left 3
    (focus (first | (simp only [List.getElem?_toArray, List.getElem?_cons_succ, List.getElem?_cons_zero]; with_reducible rfl) | (simp only [List.getElem?_toArray, List.getElem?_cons_zero]; with_reducible rfl)))
    (focus rfl)
    (focus (go_simp; (constructor <;> with_reducible rfl)))
    with_reducible refine (CM _).mono ?_
    rintro e wc ⟨rfl, bc⟩; have hIc := hI.trans (bc.mono hI.size); refine ⟨_, rfl, hIc, ?_⟩
    simp only [Act.put, List.setIfInBounds_toArray, List.set_cons_zero, List.set_cons_succ]
    repeat (first
      | (refine MixL.skip (o := ?_) ?_ ?_ ?_; rotate_left; (focus (first | (simp only [List.getElem?_toArray, List.getElem?_cons_succ, List.getElem?_cons_zero]; with_reducible rfl) | (simp only [List.getElem?_toArray, List.getElem?_cons_zero]; with_reducible rfl))); (focus rfl); simp only [Act.put, List.setIfInBounds_toArray, List.set_cons_zero, List.set_cons_succ])
      | (refine MixL.val (o := ?_) (v := ?_) ?_ ?_ ?_ ?_ ?_; rotate_left 2; (focus (first | (simp only [List.getElem?_toArray, List.getElem?_cons_succ, List.getElem?_cons_zero]; with_reducible rfl) | (simp only [List.getElem?_toArray, List.getElem?_cons_zero]; with_reducible rfl))); (focus (intro _ _ h; cases h)); (focus rfl); (focus (intro w' hJ; obtain ⟨c0, c1, c2, c3, c4, cl, d0, d1, d2, d3, dl⟩ := HD.out _ hJ; go_simp <;> with_reducible rfl)); simp only [Act.put, List.setIfInBounds_toArray, List.set_cons_zero, List.set_cons_succ]))
    have hIa := hIc.alloc hIc.size (.cells #[.int .i64 0, .int .i64 0, .int .i64 0, .int .i64 0] 32)
    refine MixL.does (o := ?_) (v := ?_) (w1 := ?_) ?_ ?_ ?_ ?_ ?_
    rotate_left 3
    (focus (first | (simp only [List.getElem?_toArray, List.getElem?_cons_succ, List.getElem?_cons_zero]; with_reducible rfl) | (simp only [List.getElem?_toArray, List.getElem?_cons_zero]; with_reducible rfl)))
    (focus rfl)
    (focus (go_simp; (constructor <;> with_reducible rfl)))
    (focus (exact hIa))
    simp only [Act.put, List.setIfInBounds_toArray, List.set_cons_zero, List.set_cons_succ]
    have K7 := Blk.new wc 32 #[.int .i64 0, .int .i64 0, .int .i64 0, .int .i64 0]
    have hs := below_setRow hIa hIc.size #[.int .i64 (X0 : Nat), .int .i64 (Y0 : Nat), .int .i64 (X1 : Nat), .int .i64 (Y1 : Nat)]
    have hs2 := hIc.size
    refine MixL.store (o := ?_) (w1 := (wc.alloc (.cells #[.int .i64 0, .int .i64 0, .int .i64 0, .int .i64 0] 32)).setRow wc.heap.size #[.int .i64 (X0 : Nat), .int .i64 (Y0 : Nat), .int .i64 (X1 : Nat), .int .i64 (Y1 : Nat)]) ?_ ?_ ?_ ?_ ?_
    rotate_left 1
    (focus (first | (simp only [List.getElem?_toArray, List.getElem?_cons_succ, List.getElem?_cons_zero]; with_reducible rfl) | (simp only [List.getElem?_toArray, List.getElem?_cons_zero]; with_reducible rfl)))
    (focus rfl)
    (focus (refine exec_store_row 32 _ _ (by rfl) wc.heap.size #[.int .i64 (X0 : Nat), .int .i64 (Y0 : Nat), .int .i64 (X1 : Nat), .int .i64 (Y1 : Nat)] (by rfl) (by rfl) 32 #[.int .i64 0, .int .i64 0, .int .i64 0, .int .i64 0] K7 bxInfo rfl (by simp [Value.oneCell'])))
    (focus (exact hs))
    simp only [Act.put, List.setIfInBounds_toArray, List.set_cons_zero, List.set_cons_succ]
    repeat (first
      | (refine MixL.skip (o := ?_) ?_ ?_ ?_; rotate_left; (focus (first | (simp only [List.getElem?_toArray, List.getElem?_cons_succ, List.getElem?_cons_zero]; with_reducible rfl) | (simp only [List.getElem?_toArray, List.getElem?_cons_zero]; with_reducible rfl))); (focus rfl); simp only [Act.put, List.setIfInBounds_toArray, List.set_cons_zero, List.set_cons_succ])
      | (refine MixL.val (o := ?_) (v := ?_) ?_ ?_ ?_ ?_ ?_; rotate_left 2; (focus (first | (simp only [List.getElem?_toArray, List.getElem?_cons_succ, List.getElem?_cons_zero]; with_reducible rfl) | (simp only [List.getElem?_toArray, List.getElem?_cons_zero]; with_reducible rfl))); (focus (intro _ _ h; cases h)); (focus rfl); (focus (intro w' hJ; skip; go_simp <;> with_reducible rfl)); simp only [Act.put, List.setIfInBounds_toArray, List.set_cons_zero, List.set_cons_succ]))
    refine MixL.nil ?_
    have K7 := blk_row K7 #[.int .i64 (X0 : Nat), .int .i64 (Y0 : Nat), .int .i64 (X1 : Nat), .int .i64 (Y1 : Nat)]
    obtain ⟨p7, hp7⟩ : ∃ p, p = wc.heap.size := ⟨_, rfl⟩
    have hs' : Below w2.heap.size w2 ((wc.alloc (.cells #[.int .i64 0, .int .i64 0, .int .i64 0, .int .i64 0] 32)).setRow p7 #[.int .i64 (X0 : Nat), .int .i64 (Y0 : Nat), .int .i64 (X1 : Nat), .int .i64 (Y1 : Nat)]) := by rw [hp7]; exact hs
    have K7' : Blk ((wc.alloc (.cells #[.int .i64 0, .int .i64 0, .int .i64 0, .int .i64 0] 32)).setRow p7 #[.int .i64 (X0 : Nat), .int .i64 (Y0 : Nat), .int .i64 (X1 : Nat), .int .i64 (Y1 : Nat)]) p7 32 #[.int .i64 (X0 : Nat), .int .i64 (Y0 : Nat), .int .i64 (X1 : Nat), .int .i64 (Y1 : Nat)] := by rw [hp7]; exact K7
    have hs2' : w2.heap.size ≤ p7 := by rw [hp7]; exact hs2
    rw [← hp7]
    have HS := Lib.hid (And.intro K7' (And.intro hs' hs2'))
    clear hs K7 hs2 hs' K7' hs2' hp7
    obtain ⟨V, hV⟩ : ∃ V, V = (wc.alloc (.cells #[.int .i64 0, .int .i64 0, .int .i64 0, .int .i64 0] 32)).setRow p7 #[.int .i64 (X0 : Nat), .int .i64 (Y0 : Nat), .int .i64 (X1 : Nat), .int .i64 (Y1 : Nat)] := ⟨_, rfl⟩
    rw [← hV] at HS ⊢
    have HK7 := Lib.hid HS.out.1
    have HBV := Lib.hid HS.out.2.1
    have HP7 := Lib.hid HS.out.2.2
    clear HS hV
    have HCV := Lib.hid (HC2.out.below HBV.out)
    have hne7 : p7 ≠ g := cnblk_ne HK7.out HCV.out.row (by decide)
    have HIV := Lib.hid (HIK.out _ _ HI2.out (Only.of_below HBV.out _))
    have k0 := HK7.out.cell 0; have k1 := HK7.out.cell 1; have k2 := HK7.out.cell 2; have k3 := HK7.out.cell 3; have kl := HK7.out.lt
    simp only [List.getElem?_toArray, List.getElem?_cons_succ, List.getElem?_cons_zero] at k0 k1 k2 k3
    go_wp2
    clear k0 k1 k2 k3 kl
    go_loopw [9, 10] (fun y _ wr => ∃ k : Nat, k ≤ Y1 - Y0 ∧ y = .int .i64 ((Y0 + k : Nat) : Int) ∧ CnV wr q g wd ht (rowsR wd X0 X1 Y0 f k E) ∧ Only V wr [g] ∧ I wr) (fun y _ _ => Y1 - (intOf y).toNat)
    case atStart => exact ⟨0, Nat.zero_le _, rfl, HCV.out, Only.refl _ _, HIV.out⟩
    case round =>
      obtain ⟨k, hk, rfl, hcr, hor, hir⟩ := hrel
      have HCR := Lib.hid hcr
      have HOR := Lib.hid hor
      have HIR := Lib.hid hir
      have K7r := HK7.out.only hor (by simp [hne7])
      have HK7r := Lib.hid K7r
      have k0 := K7r.cell 0; have k1 := K7r.cell 1; have k2 := K7r.cell 2; have k3 := K7r.cell 3; have kl := K7r.lt
      simp only [List.getElem?_toArray, List.getElem?_cons_succ, List.getElem?_cons_zero] at k0 k1 k2 k3
      clear hcr hor hir K7r
      have hYY := HY.out
      by_cases hlt : k < Y1 - Y0
      · have hy1 : Y0 + k < Y1 := by omega
        have hin := Nat.mul_le_mul_right wd (show Y0 + k + 1 ≤ ht by omega)
        rw [Nat.add_mul, Nat.one_mul, Nat.mul_comm ht wd] at hin
        have hsq := HSQ.out
        obtain ⟨x1, x2, x3⟩ := HX.out
        obtain ⟨y1, y2⟩ := HY.out
        have x4 := x3 (by omega)
        obtain ⟨⟨_, z1⟩, _, z2⟩ := HW.out.dim
        generalize hY : Y0 + k = Y at *
        obtain ⟨m, hm⟩ : ∃ m, m = Y * wd := ⟨_, rfl⟩
        rw [← hm] at hin
        have hd0 : decide ((Y : Int) < (Y1 : Int)) = true := by simp; omega
        obtain ⟨a, ha⟩ : ∃ a, a = m + X0 := ⟨_, rfl⟩
        obtain ⟨b, hb⟩ : ∃ b, b = m + X1 := ⟨_, rfl⟩
        have SF := fun W => slice_cn g (wd * ht) a b (by omega) (by omega) W
        have CD := HDO.out Y (by omega) (by omega)
        have hrec : rowsR wd X0 X1 Y0 f (k + 1) E = mapR a b (f Y) (rowsR wd X0 X1 Y0 f k E) := by rw [rowsR, hY, ← hm, ← ha, ← hb]
        have hbk := rowsR_bytes (E := E) HW.out.b8 HKB.out (k + 1) (by omega)
        have HREC := Lib.hid (And.intro hrec hbk)
        clear hrec hbk
        unfold DoRow at CD
        rw [← hm, ← ha, ← hb] at CD
        have HCD := Lib.hid CD
        clear CD
        have E1 := Lib.hid (show wrap64 ((Y : Int) * (wd : Int)) = (m : Int) from by rw [w64mul Y wd (by omega), hm])
        have E2 := Lib.hid (show IntKind.i64.wrap ((m : Int) + (X0 : Int)) = (a : Int) from by rw [w64sumk m X0 (by omega), ha])
        have E3 := Lib.hid (show IntKind.i64.wrap ((m : Int) + (X1 : Int)) = (b : Int) from by rw [w64sumk m X1 (by omega), hb])
        have E4 := Lib.hid (w64one Y (by omega))
        have rb := HCR.out.blk
        have a0 := rb.cell 0; have a1 := rb.cell 1; have a2 := rb.cell 2; have a3 := rb.cell 3; have a4 := rb.cell 4; have al := rb.lt
        simp only [List.getElem?_toArray, List.getElem?_cons_succ, List.getElem?_cons_zero] at a0 a1 a2 a3 a4
        have hq1 : q ∉ [g] := by have := HCR.out.ne; simp [this]
        have hq2 : p7 ∉ [g] := by simp [hne7]
        have HDR := Lib.hid (fun (X : World) (hX : Only wr X [g]) => And.intro ((only_cell hX (p := ⟨q, 0, none⟩) al hq1).trans a0) (And.intro ((only_cell hX (p := ⟨q, 1, none⟩) al hq1).trans a1) (And.intro ((only_cell hX (p := ⟨q, 2, none⟩) al hq1).trans a2) (And.intro ((only_cell hX (p := ⟨q, 3, none⟩) al hq1).trans a3) (And.intro ((only_cell hX (p := ⟨q, 4, none⟩) al hq1).trans a4) (And.intro (Nat.lt_of_lt_of_le al hX.size) (And.intro ((only_cell hX (p := ⟨p7, 0, none⟩) kl hq2).trans k0) (And.intro ((only_cell hX (p := ⟨p7, 1, none⟩) kl hq2).trans k1) (And.intro ((only_cell hX (p := ⟨p7, 2, none⟩) kl hq2).trans k2) (And.intro ((only_cell hX (p := ⟨p7, 3, none⟩) kl hq2).trans k3) (Nat.lt_of_lt_of_le kl hX.size)))))))))))
        have HYk := Lib.hid hY
        clear rb hm ha hb hin hsq hY x1 x2 x3 x4 y1 y2 z1 z2 hYY
        have e1 := E1.out
        go_wp2
        have hI6 : Only wr wr.drew [g] := (Only.refl _ _).drew
        clear a0 a1 a2 a3 a4 al k0 k1 k2 k3 kl
        have e2 := E2.out
        have e3 := E3.out
        refine wp_region_chain (fun V => Only wr V [g]) [(0, false), (1, false), (2, false), (3, false), (4, false), (5, false), (6, false), (7, false), (8, false), (9, false), (10, false), (11, false), (12, false), (13, false), (14, false), (15, false), (16, false), (17, true)] (by kernel_rfl) (by kernel_rfl) hI6 ?_
        repeat (first
          | (refine ChainL.skip (o := ?_) ?_ ?_ ?_; rotate_left; (focus (first | (simp only [List.getElem?_toArray, List.getElem?_cons_succ, List.getElem?_cons_zero]; with_reducible rfl) | (simp only [List.getElem?_toArray, List.getElem?_cons_zero]; with_reducible rfl))); (focus rfl); simp only [Act.put, List.setIfInBounds_toArray, List.set_cons_zero, List.set_cons_succ])
          | (refine ChainL.val (o := ?_) (v := ?_) ?_ ?_ ?_ ?_ ?_; rotate_left 2; (focus (first | (simp only [List.getElem?_toArray, List.getElem?_cons_succ, List.getElem?_cons_zero]; with_reducible rfl) | (simp only [List.getElem?_toArray, List.getElem?_cons_zero]; with_reducible rfl))); (focus (intro _ _ h; cases h)); (focus rfl); (focus (intro w' hJ; obtain ⟨c0, c1, c2, c3, c4, cl, s0, s1, s2, s3, sl⟩ := HDR.out _ hJ; have sf := SF; go_simp <;> with_reducible rfl)); simp only [Act.put, List.setIfInBounds_toArray, List.set_cons_zero, List.set_cons_succ]))
        refine ChainL.call (o := ?_) (f := ?_) (args := ?_) ?_ ?_ ?_ ?_
        rotate_left 3
        (focus (first | (simp only [List.getElem?_toArray, List.getElem?_cons_succ, List.getElem?_cons_zero]; with_reducible rfl) | (simp only [List.getElem?_toArray, List.getElem?_cons_zero]; with_reducible rfl)))
        (focus rfl)
        (focus (go_simp; (constructor <;> with_reducible rfl)))
        refine (HCD.out _ _ (HIK.out _ _ HIR.out hI6) (HCR.out.row.below ((Below.refl _ _).drew)) (by rw [HCR.out.len]) HCR.out.b8).mono ?_
        rintro e wc2 ⟨rfl, hbc, hoc⟩
        have hoc2 := hI6.trans hoc (fun b hb => .inl hb)
        refine ⟨_, rfl, hoc2, ?_⟩
        simp only [Act.put, List.setIfInBounds_toArray, List.set_cons_zero, List.set_cons_succ]
        refine ChainL.nil ?_
        have HBC := Lib.hid hbc
        have HOC := Lib.hid hoc2
        clear hbc hoc hoc2 hI6 e2 e3 e1
        have e4 := E4.out
        go_wp2
        go_roundw
        case rel =>
          refine ⟨k + 1, by omega, congrArg (Value.int .i64) (by have := HYk.out; omega), ?_, HOR.out.trans HOC.out (fun b hb => .inl hb), HIK.out _ _ HIR.out HOC.out⟩
          exact ⟨HCR.out.blk.only HOC.out hq1, by rw [HREC.out.1]; exact HBC.out, by rw [rowsR_len]; exact HW.out.len, HREC.out.2, HW.out.dim⟩
        case measure => clear e4; rw [E4.out]; simp only [intOf]; have := HYk.out; omega
      · obtain rfl : k = Y1 - Y0 := by omega
        have hd0 : decide (((Y0 + (Y1 - Y0) : Nat) : Int) < (Y1 : Int)) = false := by simp; omega
        have K6r := (HK6.out.below HBV.out).only HOR.out (by simp; exact fun e => HNQ.out.2 e.symm)
        go_wp2_with (refine wpList_store_row rfl 32 (.tmp 6) (.tmp 53) (by with_reducible rfl) (w.heap.size + 1) #[.int .i64 (X0 : Nat), .int .i64 (Y0 : Nat), .int .i64 (X1 : Nat), .int .i64 (Y1 : Nat)] (by rfl) (by rfl) 32 #[.int .i64 0, .int .i64 0, .int .i64 0, .int .i64 0] (by exact K6r) bxInfo rfl (by simp [Value.oneCell']) ?_)
        have o9 := only_row (g := w.heap.size + 1) (Only.refl wr [w.heap.size + 1]) (.inl (by simp)) #[.int .i64 (X0 : Nat), .int .i64 (Y0 : Nat), .int .i64 (X1 : Nat), .int .i64 (Y1 : Nat)]
        have hq6 := HNQ.out
        refine bodyPost_ret (results_cell_row Try.results28 _ _ (w.heap.size + 1) 32 #[.int .i64 (X0 : Nat), .int .i64 (Y0 : Nat), .int .i64 (X1 : Nat), .int .i64 (Y1 : Nat)] (0, 0) _ (by rfl) (show Blk _ _ _ _ from blk_row K6r _) Try.underlying32 rfl bxInfo) rfl ⟨rfl, HCR.out.only o9 (by simp; exact hq6.1) (by simp; exact hq6.2), ?_⟩
        have h1 : Only w wr [g] := ((Only.of_below HW2.out [g]).trans (Only.of_below HBV.out [g]) (fun b hb => .inl hb)).trans HOR.out (fun b hb => .inl hb)
        exact only_row (g := w.heap.size + 1) h1 (.inr (Nat.le_succ _)) #[.int .i64 (X0 : Nat), .int .i64 (Y0 : Nat), .int .i64 (X1 : Nat), .int .i64 (Y1 : Nat)]
  · have hIa := hI.alloc hI.size (.cells #[.int .i64 0, .int .i64 0, .int .i64 0, .int .i64 0] 32)
    refine MixL.does (o := ?_) (v := ?_) (w1 := ?_) ?_ ?_ ?_ ?_ ?_
    rotate_left 3
    (focus (first | (simp only [List.getElem?_toArray, List.getElem?_cons_succ, List.getElem?_cons_zero]; with_reducible rfl) | (simp only [List.getElem?_toArray, List.getElem?_cons_zero]; with_reducible rfl)))
    (focus rfl)
    (focus (go_simp; (constructor <;> with_reducible rfl)))
    (focus (exact hIa))
    simp only [Act.put, List.setIfInBounds_toArray, List.set_cons_zero, List.set_cons_succ]
    refine MixL.call (o := ?_) (f := ?_) (args := ?_) ?_ ?_ ?_ ?_
    rotate_left 3
    (focus (first | (simp only [List.getElem?_toArray, List.getElem?_cons_succ, List.getElem?_cons_zero]; with_reducible rfl) | (simp only [List.getElem?_toArray, List.getElem?_cons_zero]; with_reducible rfl)))
    (focus rfl)
    (focus (go_simp; (constructor <;> with_reducible rfl)))
    with_reducible refine (CM _).mono ?_
    rintro e wc ⟨rfl, bc⟩; have hIc := hIa.trans (bc.mono hIa.size); refine ⟨_, rfl, hIc, ?_⟩
    simp only [Act.put, List.setIfInBounds_toArray, List.set_cons_zero, List.set_cons_succ]
    repeat (first
      | (refine MixL.skip (o := ?_) ?_ ?_ ?_; rotate_left; (focus (first | (simp only [List.getElem?_toArray, List.getElem?_cons_succ, List.getElem?_cons_zero]; with_reducible rfl) | (simp only [List.getElem?_toArray, List.getElem?_cons_zero]; with_reducible rfl))); (focus rfl); simp only [Act.put, List.setIfInBounds_toArray, List.set_cons_zero, List.set_cons_succ])
      | (refine MixL.val (o := ?_) (v := ?_) ?_ ?_ ?_ ?_ ?_; rotate_left 2; (focus (first | (simp only [List.getElem?_toArray, List.getElem?_cons_succ, List.getElem?_cons_zero]; with_reducible rfl) | (simp only [List.getElem?_toArray, List.getElem?_cons_zero]; with_reducible rfl))); (focus (intro _ _ h; cases h)); (focus rfl); (focus (intro w' hJ; obtain ⟨c0, c1, c2, c3, c4, cl, d0, d1, d2, d3, dl⟩ := HD.out _ hJ; go_simp <;> with_reducible rfl)); simp only [Act.put, List.setIfInBounds_toArray, List.set_cons_zero, List.set_cons_succ]))
    have K7 := Blk.below (show Blk (w2.drew.alloc (.cells #[.int .i64 0, .int .i64 0, .int .i64 0, .int .i64 0] 32)) w2.heap.size 32 #[.int .i64 0, .int .i64 0, .int .i64 0, .int .i64 0] from Blk.new w2.drew 32 #[.int .i64 0, .int .i64 0, .int .i64 0, .int .i64 0]) bc
    have hs := below_setRow hIc (Nat.le_refl _) #[.int .i64 (X0 : Nat), .int .i64 (Y0 : Nat), .int .i64 (X1 : Nat), .int .i64 (Y1 : Nat)]
    have hs2 := Nat.le_refl w2.heap.size
    refine MixL.store (o := ?_) (w1 := wc.setRow w2.heap.size #[.int .i64 (X0 : Nat), .int .i64 (Y0 : Nat), .int .i64 (X1 : Nat), .int .i64 (Y1 : Nat)]) ?_ ?_ ?_ ?_ ?_
    rotate_left 1
    (focus (first | (simp only [List.getElem?_toArray, List.getElem?_cons_succ, List.getElem?_cons_zero]; with_reducible rfl) | (simp only [List.getElem?_toArray, List.getElem?_cons_zero]; with_reducible rfl)))
    (focus rfl)
    (focus (refine exec_store_row 32 _ _ (by rfl) w2.heap.size #[.int .i64 (X0 : Nat), .int .i64 (Y0 : Nat), .int .i64 (X1 : Nat), .int .i64 (Y1 : Nat)] (by rfl) (by rfl) 32 #[.int .i64 0, .int .i64 0, .int .i64 0, .int .i64 0] K7 bxInfo rfl (by simp [Value.oneCell'])))
    (focus (exact hs))
    simp only [Act.put, List.setIfInBounds_toArray, List.set_cons_zero, List.set_cons_succ]
    repeat (first
      | (refine MixL.skip (o := ?_) ?_ ?_ ?_; rotate_left; (focus (first | (simp only [List.getElem?_toArray, List.getElem?_cons_succ, List.getElem?_cons_zero]; with_reducible rfl) | (simp only [List.getElem?_toArray, List.getElem?_cons_zero]; with_reducible rfl))); (focus rfl); simp only [Act.put, List.setIfInBounds_toArray, List.set_cons_zero, List.set_cons_succ])
      | (refine MixL.val (o := ?_) (v := ?_) ?_ ?_ ?_ ?_ ?_; rotate_left 2; (focus (first | (simp only [List.getElem?_toArray, List.getElem?_cons_succ, List.getElem?_cons_zero]; with_reducible rfl) | (simp only [List.getElem?_toArray, List.getElem?_cons_zero]; with_reducible rfl))); (focus (intro _ _ h; cases h)); (focus rfl); (focus (intro w' hJ; skip; go_simp <;> with_reducible rfl)); simp only [Act.put, List.setIfInBounds_toArray, List.set_cons_zero, List.set_cons_succ]))
    refine MixL.nil ?_
    have K7 := blk_row K7 #[.int .i64 (X0 : Nat), .int .i64 (Y0 : Nat), .int .i64 (X1 : Nat), .int .i64 (Y1 : Nat)]
    obtain ⟨p7, hp7⟩ : ∃ p, p = w2.heap.size := ⟨_, rfl⟩
    have hs' : Below w2.heap.size w2 (wc.setRow p7 #[.int .i64 (X0 : Nat), .int .i64 (Y0 : Nat), .int .i64 (X1 : Nat), .int .i64 (Y1 : Nat)]) := by rw [hp7]; exact hs
    have K7' : Blk (wc.setRow p7 #[.int .i64 (X0 : Nat), .int .i64 (Y0 : Nat), .int .i64 (X1 : Nat), .int .i64 (Y1 : Nat)]) p7 32 #[.int .i64 (X0 : Nat), .int .i64 (Y0 : Nat), .int .i64 (X1 : Nat), .int .i64 (Y1 : Nat)] := by rw [hp7]; exact K7
    have hs2' : w2.heap.size ≤ p7 := by rw [hp7]; exact hs2
    rw [← hp7]
    have HS := Lib.hid (And.intro K7' (And.intro hs' hs2'))
    clear hs K7 hs2 hs' K7' hs2' hp7
    obtain ⟨V, hV⟩ : ∃ V, V = wc.setRow p7 #[.int .i64 (X0 : Nat), .int .i64 (Y0 : Nat), .int .i64 (X1 : Nat), .int .i64 (Y1 : Nat)] := ⟨_, rfl⟩
    rw [← hV] at HS ⊢
    have HK7 := Lib.hid HS.out.1
    have HBV := Lib.hid HS.out.2.1
    have HP7 := Lib.hid HS.out.2.2
    clear HS hV
    have HCV := Lib.hid (HC2.out.below HBV.out)
    have hne7 : p7 ≠ g := cnblk_ne HK7.out HCV.out.row (by decide)
    have HIV := Lib.hid (HIK.out _ _ HI2.out (Only.of_below HBV.out _))
    have k0 := HK7.out.cell 0; have k1 := HK7.out.cell 1; have k2 := HK7.out.cell 2; have k3 := HK7.out.cell 3; have kl := HK7.out.lt
    simp only [List.getElem?_toArray, List.getElem?_cons_succ, List.getElem?_cons_zero] at k0 k1 k2 k3
    go_wp2
    clear k0 k1 k2 k3 kl
    go_loopw [9, 10] (fun y _ wr => ∃ k : Nat, k ≤ Y1 - Y0 ∧ y = .int .i64 ((Y0 + k : Nat) : Int) ∧ CnV wr q g wd ht (rowsR wd X0 X1 Y0 f k E) ∧ Only V wr [g] ∧ I wr) (fun y _ _ => Y1 - (intOf y).toNat)
    case atStart => exact ⟨0, Nat.zero_le _, rfl, HCV.out, Only.refl _ _, HIV.out⟩
    case round =>
      obtain ⟨k, hk, rfl, hcr, hor, hir⟩ := hrel
      have HCR := Lib.hid hcr
      have HOR := Lib.hid hor
      have HIR := Lib.hid hir
      have K7r := HK7.out.only hor (by simp [hne7])
      have HK7r := Lib.hid K7r
      have k0 := K7r.cell 0; have k1 := K7r.cell 1; have k2 := K7r.cell 2; have k3 := K7r.cell 3; have kl := K7r.lt
      simp only [List.getElem?_toArray, List.getElem?_cons_succ, List.getElem?_cons_zero] at k0 k1 k2 k3
      clear hcr hor hir K7r
      have hYY := HY.out
      by_cases hlt : k < Y1 - Y0
      · have hy1 : Y0 + k < Y1 := by omega
        have hin := Nat.mul_le_mul_right wd (show Y0 + k + 1 ≤ ht by omega)
        rw [Nat.add_mul, Nat.one_mul, Nat.mul_comm ht wd] at hin
        have hsq := HSQ.out
        obtain ⟨x1, x2, x3⟩ := HX.out
        obtain ⟨y1, y2⟩ := HY.out
        have x4 := x3 (by omega)
        obtain ⟨⟨_, z1⟩, _, z2⟩ := HW.out.dim
        generalize hY : Y0 + k = Y at *
        obtain ⟨m, hm⟩ : ∃ m, m = Y * wd := ⟨_, rfl⟩
        rw [← hm] at hin
        have hd0 : decide ((Y : Int) < (Y1 : Int)) = true := by simp; omega
        obtain ⟨a, ha⟩ : ∃ a, a = m + X0 := ⟨_, rfl⟩
        obtain ⟨b, hb⟩ : ∃ b, b = m + X1 := ⟨_, rfl⟩
        have SF := fun W => slice_cn g (wd * ht) a b (by omega) (by omega) W
        have CD := HDO.out Y (by omega) (by omega)
        have hrec : rowsR wd X0 X1 Y0 f (k + 1) E = mapR a b (f Y) (rowsR wd X0 X1 Y0 f k E) := by rw [rowsR, hY, ← hm, ← ha, ← hb]
        have hbk := rowsR_bytes (E := E) HW.out.b8 HKB.out (k + 1) (by omega)
        have HREC := Lib.hid (And.intro hrec hbk)
        clear hrec hbk
        unfold DoRow at CD
        rw [← hm, ← ha, ← hb] at CD
        have HCD := Lib.hid CD
        clear CD
        have E1 := Lib.hid (show wrap64 ((Y : Int) * (wd : Int)) = (m : Int) from by rw [w64mul Y wd (by omega), hm])
        have E2 := Lib.hid (show IntKind.i64.wrap ((m : Int) + (X0 : Int)) = (a : Int) from by rw [w64sumk m X0 (by omega), ha])
        have E3 := Lib.hid (show IntKind.i64.wrap ((m : Int) + (X1 : Int)) = (b : Int) from by rw [w64sumk m X1 (by omega), hb])
        have E4 := Lib.hid (w64one Y (by omega))
        have rb := HCR.out.blk
        have a0 := rb.cell 0; have a1 := rb.cell 1; have a2 := rb.cell 2; have a3 := rb.cell 3; have a4 := rb.cell 4; have al := rb.lt
        simp only [List.getElem?_toArray, List.getElem?_cons_succ, List.getElem?_cons_zero] at a0 a1 a2 a3 a4
        have hq1 : q ∉ [g] := by have := HCR.out.ne; simp [this]
        have hq2 : p7 ∉ [g] := by simp [hne7]
        have HDR := Lib.hid (fun (X : World) (hX : Only wr X [g]) => And.intro ((only_cell hX (p := ⟨q, 0, none⟩) al hq1).trans a0) (And.intro ((only_cell hX (p := ⟨q, 1, none⟩) al hq1).trans a1) (And.intro ((only_cell hX (p := ⟨q, 2, none⟩) al hq1).trans a2) (And.intro ((only_cell hX (p := ⟨q, 3, none⟩) al hq1).trans a3) (And.intro ((only_cell hX (p := ⟨q, 4, none⟩) al hq1).trans a4) (And.intro (Nat.lt_of_lt_of_le al hX.size) (And.intro ((only_cell hX (p := ⟨p7, 0, none⟩) kl hq2).trans k0) (And.intro ((only_cell hX (p := ⟨p7, 1, none⟩) kl hq2).trans k1) (And.intro ((only_cell hX (p := ⟨p7, 2, none⟩) kl hq2).trans k2) (And.intro ((only_cell hX (p := ⟨p7, 3, none⟩) kl hq2).trans k3) (Nat.lt_of_lt_of_le kl hX.size)))))))))))
        have HYk := Lib.hid hY
        clear rb hm ha hb hin hsq hY x1 x2 x3 x4 y1 y2 z1 z2 hYY
        have e1 := E1.out
        go_wp2
        have hI6 : Only wr wr.drew [g] := (Only.refl _ _).drew
        clear a0 a1 a2 a3 a4 al k0 k1 k2 k3 kl
        have e2 := E2.out
        have e3 := E3.out
        refine wp_region_chain (fun V => Only wr V [g]) [(0, false), (1, false), (2, false), (3, false), (4, false), (5, false), (6, false), (7, false), (8, false), (9, false), (10, false), (11, false), (12, false), (13, false), (14, false), (15, false), (16, false), (17, true)] (by kernel_rfl) (by kernel_rfl) hI6 ?_
        repeat (first
          | (refine ChainL.skip (o := ?_) ?_ ?_ ?_; rotate_left; (focus (first | (simp only [List.getElem?_toArray, List.getElem?_cons_succ, List.getElem?_cons_zero]; with_reducible rfl) | (simp only [List.getElem?_toArray, List.getElem?_cons_zero]; with_reducible rfl))); (focus rfl); simp only [Act.put, List.setIfInBounds_toArray, List.set_cons_zero, List.set_cons_succ])
          | (refine ChainL.val (o := ?_) (v := ?_) ?_ ?_ ?_ ?_ ?_; rotate_left 2; (focus (first | (simp only [List.getElem?_toArray, List.getElem?_cons_succ, List.getElem?_cons_zero]; with_reducible rfl) | (simp only [List.getElem?_toArray, List.getElem?_cons_zero]; with_reducible rfl))); (focus (intro _ _ h; cases h)); (focus rfl); (focus (intro w' hJ; obtain ⟨c0, c1, c2, c3, c4, cl, s0, s1, s2, s3, sl⟩ := HDR.out _ hJ; have sf := SF; go_simp <;> with_reducible rfl)); simp only [Act.put, List.setIfInBounds_toArray, List.set_cons_zero, List.set_cons_succ]))
        refine ChainL.call (o := ?_) (f := ?_) (args := ?_) ?_ ?_ ?_ ?_
        rotate_left 3
        (focus (first | (simp only [List.getElem?_toArray, List.getElem?_cons_succ, List.getElem?_cons_zero]; with_reducible rfl) | (simp only [List.getElem?_toArray, List.getElem?_cons_zero]; with_reducible rfl)))
        (focus rfl)
        (focus (go_simp; (constructor <;> with_reducible rfl)))
        refine (HCD.out _ _ (HIK.out _ _ HIR.out hI6) (HCR.out.row.below ((Below.refl _ _).drew)) (by rw [HCR.out.len]) HCR.out.b8).mono ?_
        rintro e wc2 ⟨rfl, hbc, hoc⟩
        have hoc2 := hI6.trans hoc (fun b hb => .inl hb)
        refine ⟨_, rfl, hoc2, ?_⟩
        simp only [Act.put, List.setIfInBounds_toArray, List.set_cons_zero, List.set_cons_succ]
        refine ChainL.nil ?_
        have HBC := Lib.hid hbc
        have HOC := Lib.hid hoc2
        clear hbc hoc hoc2 hI6 e2 e3 e1
        have e4 := E4.out
        go_wp2
        go_roundw
        case rel =>
          refine ⟨k + 1, by omega, congrArg (Value.int .i64) (by have := HYk.out; omega), ?_, HOR.out.trans HOC.out (fun b hb => .inl hb), HIK.out _ _ HIR.out HOC.out⟩
          exact ⟨HCR.out.blk.only HOC.out hq1, by rw [HREC.out.1]; exact HBC.out, by rw [rowsR_len]; exact HW.out.len, HREC.out.2, HW.out.dim⟩
        case measure => clear e4; rw [E4.out]; simp only [intOf]; have := HYk.out; omega
      · obtain rfl : k = Y1 - Y0 := by omega
        have hd0 : decide (((Y0 + (Y1 - Y0) : Nat) : Int) < (Y1 : Int)) = false := by simp; omega
        have K6r := (HK6.out.below HBV.out).only HOR.out (by simp; exact fun e => HNQ.out.2 e.symm)
        go_wp2_with (refine wpList_store_row rfl 32 (.tmp 6) (.tmp 53) (by with_reducible rfl) (w.heap.size + 1) #[.int .i64 (X0 : Nat), .int .i64 (Y0 : Nat), .int .i64 (X1 : Nat), .int .i64 (Y1 : Nat)] (by rfl) (by rfl) 32 #[.int .i64 0, .int .i64 0, .int .i64 0, .int .i64 0] (by exact K6r) bxInfo rfl (by simp [Value.oneCell']) ?_)
        have o9 := only_row (g := w.heap.size + 1) (Only.refl wr [w.heap.size + 1]) (.inl (by simp)) #[.int .i64 (X0 : Nat), .int .i64 (Y0 : Nat), .int .i64 (X1 : Nat), .int .i64 (Y1 : Nat)]
        have hq6 := HNQ.out
        refine bodyPost_ret (results_cell_row Try.results28 _ _ (w.heap.size + 1) 32 #[.int .i64 (X0 : Nat), .int .i64 (Y0 : Nat), .int .i64 (X1 : Nat), .int .i64 (Y1 : Nat)] (0, 0) _ (by rfl) (show Blk _ _ _ _ from blk_row K6r _) Try.underlying32 rfl bxInfo) rfl ⟨rfl, HCR.out.only o9 (by simp; exact hq6.1) (by simp; exact hq6.2), ?_⟩
        have h1 : Only w wr [g] := ((Only.of_below HW2.out [g]).trans (Only.of_below HBV.out [g]) (fun b hb => .inl hb)).trans HOR.out (fun b hb => .inl hb)
        exact only_row (g := w.heap.size + 1) h1 (.inr (Nat.le_succ _)) #[.int .i64 (X0 : Nat), .int .i64 (Y0 : Nat), .int .i64 (X1 : Nat), .int .i64 (Y1 : Nat)]
end Go.Proofs.Ytlbbigehjdnjmaa

namespace Go.Proofs.Ytlbbigehjdnjmaa
open Go Go.RowKit
set_option linter.unusedVariables false
set_option linter.unusedSimpArgs false

theorem new1_any (p g a L C : Nat) (x y c : Int) (E : List Value) (V : World) (hp : Blk V p 3 #[.int .i64 c]) (hb : Blk V g 5 E.toArray) (hl : a + L ≤ E.length) (hLC : L ≤ C) (hm : E.length ≤ 16777216) (hc : inZ 0 255 c = true) :
    Calls Try.prog 29 #[.slice (some ⟨g, a, none⟩) L C, .int .i64 x, .int .i64 y, .pointer (some ⟨p, 0, none⟩)] V fun e w' => e = .returned (.tuple #[]) ∧ Blk w' g 5 (mapR a (a + L) (pntF c) E).toArray ∧ Only V w' [g] := by
  have CP := paint_any g a L C c E V hb hl hLC hm hc
  have k0 := hp.cell 0
  have kl := hp.lt
  simp only [List.getElem?_toArray, List.getElem?_cons_zero] at k0
  clear hb hl hLC hm hc hp
  go_enter Try.func29, Try.ntmps29
  go_wp2_with (go_at_call 30; ((with_reducible refine (CP).mono ?_); rintro e w' ⟨rfl, h1, h2⟩))
  exact bodyPost_end (results_none rfl _ _ _) rfl ⟨rfl, h1, h2⟩
theorem new1_row (p g wd ht X0 X1 y : Nat) (c : Int) (hpg : p ≠ g) (hx : X0 ≤ X1 ∧ X1 ≤ wd) (hy : y < ht) (hd : wd ≤ 4096 ∧ ht ≤ 4096) (hc : inZ 0 255 c = true) :
    DoRow (fun V => Blk V p 3 #[.int .i64 c]) 29 #[.pointer (some ⟨p, 0, none⟩)] g wd ht X0 X1 (fun _ => pntF c) y := by
  intro V E hI hb hE h8
  have h1 : (y + 1) * wd ≤ ht * wd := Nat.mul_le_mul_right wd hy
  rw [Nat.add_mul, Nat.one_mul, Nat.mul_comm ht wd] at h1
  have h2 := Nat.mul_le_mul hd.1 hd.2
  have h3 := new1_any p g (y * wd + X0) (y * wd + X1 - (y * wd + X0)) (wd * ht - (y * wd + X0)) (X0 : Nat) (y : Nat) c E V hI hb (by omega) (by omega) (by omega) hc
  rw [show y * wd + X0 + (y * wd + X1 - (y * wd + X0)) = y * wd + X1 by omega] at h3
  exact h3
theorem fill1_any (p g a L C : Nat) (x y c : Int) (E : List Value) (V : World) (hp : Blk V p 3 #[.int .i64 c]) (hb : Blk V g 5 E.toArray) (hl : a + L ≤ E.length) (hLC : L ≤ C) (hm : E.length ≤ 16777216) (hc : inZ 0 255 c = true) :
    Calls Try.prog 42 #[.slice (some ⟨g, a, none⟩) L C, .int .i64 x, .int .i64 y, .pointer (some ⟨p, 0, none⟩)] V fun e w' => e = .returned (.tuple #[]) ∧ Blk w' g 5 (mapR a (a + L) (pntF c) E).toArray ∧ Only V w' [g] := by
  have CP := paint_any g a L C c E V hb hl hLC hm hc
  have k0 := hp.cell 0
  have kl := hp.lt
  simp only [List.getElem?_toArray, List.getElem?_cons_zero] at k0
  clear hb hl hLC hm hc hp
  go_enter Try.func42, Try.ntmps42
  go_wp2_with (go_at_call 30; ((with_reducible refine (CP).mono ?_); rintro e w' ⟨rfl, h1, h2⟩))
  exact bodyPost_end (results_none rfl _ _ _) rfl ⟨rfl, h1, h2⟩
theorem fill1_row (p g wd ht X0 X1 y : Nat) (c : Int) (hpg : p ≠ g) (hx : X0 ≤ X1 ∧ X1 ≤ wd) (hy : y < ht) (hd : wd ≤ 4096 ∧ ht ≤ 4096) (hc : inZ 0 255 c = true) :
    DoRow (fun V => Blk V p 3 #[.int .i64 c]) 42 #[.pointer (some ⟨p, 0, none⟩)] g wd ht X0 X1 (fun _ => pntF c) y := by
  intro V E hI hb hE h8
  have h1 : (y + 1) * wd ≤ ht * wd := Nat.mul_le_mul_right wd hy
  rw [Nat.add_mul, Nat.one_mul, Nat.mul_comm ht wd] at h1
  have h2 := Nat.mul_le_mul hd.1 hd.2
  have h3 := fill1_any p g (y * wd + X0) (y * wd + X1 - (y * wd + X0)) (wd * ht - (y * wd + X0)) (X0 : Nat) (y : Nat) c E V hI hb (by omega) (by omega) (by omega) hc
  rw [show y * wd + X0 + (y * wd + X1 - (y * wd + X0)) = y * wd + X1 by omega] at h3
  exact h3
theorem pnt_keep (c : Int) (wd X0 X1 Y0 Y1 : Nat) (hc : inZ 0 255 c = true) : KeepB (fun _ => pntF c) wd X0 X1 Y0 Y1 := fun y k d _ _ _ _ _ => in_b8 hc
/-- What a mask's bytes M, of a box that is bw wide and begins at bx, by, put on row y of a canvas that is wd wide. -/
def blnF (c : Int) (M : List Value) (bx by_ : Int) (bw wd : Nat) : Nat → Nat → Value → Value := fun y k d => .int .u8 (mixZ (ub d) c (ub (M.getD ((((y : Int) - by_) * (bw : Int) + ((k - y * wd : Nat) : Int) - bx).toNat) (.int .u8 0))))
theorem bln_keep (c : Int) (M : List Value) (bx by_ : Int) (bw wd X0 X1 Y0 Y1 : Nat) (hc : inZ 0 255 c = true) (h8 : Bytes8 M) : KeepB (blnF c M bx by_ bw wd) wd X0 X1 Y0 Y1 := fun y k d _ _ _ _ hd => by
  obtain ⟨_, h1⟩ := b8_in hd
  obtain ⟨_, h2⟩ := b8_in (getD_b8 h8 ((((y : Int) - by_) * (bw : Int) + ((k - y * wd : Nat) : Int) - bx).toNat))
  exact in_b8 (mixZ_in h1 hc h2)
theorem slice_from (b o n c a : Nat) (h1 : a < n) (h2 : n ≤ c) (w : World) : (Instr.sliceAt 33 (.slice (some ⟨b, o, none⟩) n c) (some (.int .i64 (a : Nat))) none none).run Try.prog w = .ok (.slice (some ⟨b, o + a, none⟩) (n - a) (c - a)) w := by
  have hu := Try.underlying33
  have hz := Try.sizeOf5
  have i2 : (n : Int) ≤ (c : Int) := by omega
  have i3 : (0 : Int) ≤ (a : Int) := by omega
  have i4 : (a : Int) ≤ (n : Int) := by omega
  have i5 : a ≤ n := by omega
  have i6 : ¬ c = a := by omega
  simp [Instr.sliceAt, Instr.slice, Instr.sliceBounds, Instr.sliceBound, run_underlying hu, Sem.run_bind, Sem.run_pure, Result.andThen, asIntOf, hz, i3, h2, i5, i6, addr_plain]
/-- What Blend$1 has at hand: the box further on, the mask, the colour. -/
structure Bl1 (V : World) (pb pm pc g : Nat) (B M0 : Q) (mb mo mc : Nat) (M : List Value) (c : Int) : Prop where
  box : Blk V pb 32 #[.int .i64 B.x0, .int .i64 B.y0, .int .i64 B.x1, .int .i64 B.y1]
  msk : Blk V pm 35 #[.int .i64 M0.x0, .int .i64 M0.y0, .int .i64 M0.x1, .int .i64 M0.y1, .slice (some ⟨mb, mo, none⟩) M.length mc]
  clr : Blk V pc 3 #[.int .i64 c]
  byt : ∀ i v, M[i]? = some v → V.cell? ⟨mb, mo + i, none⟩ = some v
  lt : mb < V.heap.size
  ne : mb ≠ g ∧ pb ≠ g ∧ pm ≠ g ∧ pc ≠ g
theorem Bl1.keep {V W : World} {pb pm pc g : Nat} {B M0 : Q} {mb mo mc : Nat} {M : List Value} {c : Int} (h : Bl1 V pb pm pc g B M0 mb mo mc M c) (o : Only V W [g]) : Bl1 W pb pm pc g B M0 mb mo mc M c :=
  ⟨h.box.only o (by simp; exact h.ne.2.1), h.msk.only o (by simp; exact h.ne.2.2.1), h.clr.only o (by simp; exact h.ne.2.2.2), fun i v hv => (only_cell o (p := ⟨mb, mo + i, none⟩) h.lt (by simp; exact h.ne.1)).trans (h.byt i v hv), Nat.lt_of_lt_of_le h.lt o.size, h.ne⟩
set_option maxRecDepth 100000 in
set_option maxHeartbeats 1000000 in
theorem blend1_any (pb pm pc g a L C : Nat) (B M0 : Q) (mb mo mc : Nat) (M : List Value) (c : Int) (X0 y r bw s : Nat) (E : List Value) (V : World) (h : Bl1 V pb pm pc g B M0 mb mo mc M c)
    (hb : Blk V g 5 E.toArray) (h8 : Bytes8 E) (hl : a + L ≤ E.length) (hLC : L ≤ C) (hm : E.length ≤ 16777216) (hc : inZ 0 255 c = true) (hM8 : Bytes8 M) (hM2 : M.length ≤ 4194304) (hmc : M.length ≤ mc)
    (er : (y : Int) - B.y0 = (r : Nat)) (ew : B.x1 - B.x0 = (bw : Nat)) (es : (X0 : Int) - B.x0 = (s : Nat)) (hx : X0 ≤ 4096) (hfit : r * bw + s + L ≤ M.length) (hL : 0 < L) (hr : r ≤ 1048576) (hbw : bw ≤ 1048576) :
    Calls Try.prog 38 #[.slice (some ⟨g, a, none⟩) L C, .int .i64 (X0 : Nat), .int .i64 (y : Nat), .pointer (some ⟨pb, 0, none⟩), .pointer (some ⟨pm, 0, none⟩), .pointer (some ⟨pc, 0, none⟩)] V fun e w' => e = .returned (.tuple #[]) ∧ Blk w' g 5 (mapR a (a + L) (bldF c (M.drop (r * bw + s)) 0 a) E).toArray ∧ Only V w' [g] := by
  have CB := fun (W : World) (hW : Below V.heap.size V W) => blend_any g a L C c E mb (mo + (r * bw + s)) (M.length - (r * bw + s)) (mc - (r * bw + s)) (M.drop (r * bw + s)) W (hb.below hW) h8 hl hLC hm hc
    (fun i v hv => by
      rw [List.getElem?_drop] at hv
      have := (hW.cell (p := ⟨mb, mo + (r * bw + s + i), none⟩) h.lt).trans (h.byt _ v hv)
      rwa [← Nat.add_assoc] at this) h.ne.1 (fun u hu => hM8 u (List.mem_of_mem_drop hu)) (by simp) (by omega) (by omega)
  have SF := fun W => slice_from mb mo M.length mc (r * bw + s) (by omega) hmc W
  obtain ⟨rb, hrb⟩ : ∃ rb, rb = r * bw := ⟨_, rfl⟩
  obtain ⟨u, hu⟩ : ∃ u, u = rb + X0 := ⟨_, rfl⟩
  obtain ⟨v, hv⟩ : ∃ v, v = rb + s := ⟨_, rfl⟩
  have hrbl : rb ≤ 4194304 := by omega
  have E1 := Lib.hid (show wrap64 ((y : Int) - B.y0) = (r : Int) from by rw [er]; exact w64n (by omega) (by omega))
  have E2 := Lib.hid (show wrap64 (B.x1 - B.x0) = (bw : Int) from by rw [ew]; exact w64n (by omega) (by omega))
  have E3 := Lib.hid (show wrap64 ((r : Int) * (bw : Int)) = (rb : Int) from by rw [w64mul r bw (by omega), hrb])
  have E4 := Lib.hid (show wrap64 ((rb : Int) + (X0 : Int)) = (u : Int) from by rw [w64sum rb X0 (by omega), hu])
  have E5 := Lib.hid (show wrap64 ((u : Int) - B.x0) = (v : Int) from by rw [show (u : Int) - B.x0 = (v : Int) by omega]; exact w64n (by omega) (by omega))
  rw [← hrb, ← hv] at SF CB
  rw [← hrb, ← hv]
  have k0 := h.box.cell 0; have k1 := h.box.cell 1; have k2 := h.box.cell 2; have k3 := h.box.cell 3; have kl := h.box.lt
  have m4 := h.msk.cell 4; have ml := h.msk.lt
  have c0 := h.clr.cell 0; have cl := h.clr.lt
  simp only [List.getElem?_toArray, List.getElem?_cons_succ, List.getElem?_cons_zero] at k0 k1 k2 k3 m4 c0
  have HD := Lib.hid (fun (X : World) (hX : Below V.heap.size V X) => And.intro ((hX.cell (p := ⟨pm, 4, none⟩) ml).trans m4) (And.intro (Nat.lt_of_lt_of_le ml hX.size) (And.intro ((hX.cell (p := ⟨pc, 0, none⟩) cl).trans c0) (Nat.lt_of_lt_of_le cl hX.size))))
  clear h hb h8 hl hLC hm hc hM8 hM2 hmc er ew es hx hfit hL hrb hu hv hrbl hr hbw m4 ml c0 cl
  have e1 := E1.out; have e2 := E2.out; have e3 := E3.out; have e4 := E4.out; have e5 := E5.out
  go_enter Try.func38, Try.ntmps38
  go_wp2
  have hI : Below V.heap.size V V.drew := (Below.refl _ _).drew
  clear k0 k1 k2 k3 kl e1 e2 e3 e4 e5
  refine wp_region_chain_last (fun W => Below V.heap.size V W) [(0, false), (1, false), (2, false), (3, false), (4, false), (5, false)] _ _ (by rfl) (by rfl) (by kernel_rfl) (by kernel_rfl) hI ?_
  repeat (first
    | (refine ChainL.skip (o := ?_) ?_ ?_ ?_; rotate_left; (focus (first | (simp only [List.getElem?_toArray, List.getElem?_cons_succ, List.getElem?_cons_zero]; with_reducible rfl) | (simp only [List.getElem?_toArray, List.getElem?_cons_zero]; with_reducible rfl))); (focus rfl); simp only [Act.put, List.setIfInBounds_toArray, List.set_cons_zero, List.set_cons_succ])
    | (refine ChainL.val (o := ?_) (v := ?_) ?_ ?_ ?_ ?_ ?_; rotate_left 2; (focus (first | (simp only [List.getElem?_toArray, List.getElem?_cons_succ, List.getElem?_cons_zero]; with_reducible rfl) | (simp only [List.getElem?_toArray, List.getElem?_cons_zero]; with_reducible rfl))); (focus (intro _ _ h; cases h)); (focus rfl); (focus (intro w' hJ; obtain ⟨m4, ml, c0, cl⟩ := HD.out _ hJ; have sf := SF; have e5 := E5.out; go_simp <;> with_reducible rfl)); simp only [Act.put, List.setIfInBounds_toArray, List.set_cons_zero, List.set_cons_succ]))
  refine ChainL.nil ?_
  have CB := CB _ hI
  go_wp2_with (go_at_call 39; ((with_reducible refine (CB).mono ?_); rintro e w' ⟨rfl, h1, h2⟩))
  exact bodyPost_end (results_none rfl _ _ _) rfl ⟨rfl, h1, (Only.of_below hI [g]).trans h2 (fun b hb => .inl hb)⟩
theorem blend1_row (pb pm pc g wd ht X0 X1 y : Nat) (B M0 : Q) (mb mo mc : Nat) (M : List Value) (c : Int) (hx : X0 < X1 ∧ X1 ≤ wd) (hy : y < ht) (hd : wd ≤ 4096 ∧ ht ≤ 4096) (hc : inZ 0 255 c = true)
    (hM8 : Bytes8 M) (hmc : M.length ≤ mc) (bw bh : Nat) (ew : B.x1 - B.x0 = (bw : Nat)) (eh : B.y1 - B.y0 = (bh : Nat)) (hML : M.length = bw * bh) (hM2 : M.length ≤ 4194304) (hbw : bw ≤ 1048576 ∧ bh ≤ 1048576)
    (hin : B.x0 ≤ X0 ∧ X1 ≤ B.x1 ∧ B.y0 ≤ y ∧ y < B.y1) :
    DoRow (fun V => Bl1 V pb pm pc g B M0 mb mo mc M c) 38 #[.pointer (some ⟨pb, 0, none⟩), .pointer (some ⟨pm, 0, none⟩), .pointer (some ⟨pc, 0, none⟩)] g wd ht X0 X1 (blnF c M B.x0 B.y0 bw wd) y := by
  intro V E hI hb hE h8
  have h1 : (y + 1) * wd ≤ ht * wd := Nat.mul_le_mul_right wd hy
  rw [Nat.add_mul, Nat.one_mul, Nat.mul_comm ht wd] at h1
  have h2 := Nat.mul_le_mul hd.1 hd.2
  obtain ⟨r, hr⟩ : ∃ r : Nat, (y : Int) - B.y0 = (r : Nat) := ⟨((y : Int) - B.y0).toNat, by omega⟩
  obtain ⟨s, hs⟩ : ∃ s : Nat, (X0 : Int) - B.x0 = (s : Nat) := ⟨((X0 : Int) - B.x0).toNat, by omega⟩
  have h4 : (r + 1) * bw ≤ bh * bw := Nat.mul_le_mul_right bw (by omega)
  rw [Nat.add_mul, Nat.one_mul, Nat.mul_comm bh bw, ← hML] at h4
  have h3 := blend1_any pb pm pc g (y * wd + X0) (y * wd + X1 - (y * wd + X0)) (wd * ht - (y * wd + X0)) B M0 mb mo mc M c X0 y r bw s E V hI hb h8 (by omega) (by omega) (by omega) hc hM8 hM2 hmc hr ew hs (by omega) (by omega) (by omega) (by omega) hbw.1
  rw [show y * wd + X0 + (y * wd + X1 - (y * wd + X0)) = y * wd + X1 by omega] at h3
  rw [mapR_ext (g := blnF c M B.x0 B.y0 bw wd y)] at h3
  · exact h3
  · intro k d hk1 hk2 _
    unfold bldF blnF
    congr 3
    rw [hr, List.getD_eq_getElem?_getD, List.getElem?_drop, List.getD_eq_getElem?_getD]
    have e : (((r : Nat) : Int) * (bw : Int) + ((k - y * wd : Nat) : Int) - B.x0).toNat = r * bw + s + (0 + (k - (y * wd + X0))) := by
      rw [← Int.natCast_mul]
      generalize r * bw = rb
      omega
    rw [e]
theorem rowsR_get (wd X0 X1 Y0 : Nat) (f : Nat → Nat → Value → Value) (E : List Value) (hx : X1 ≤ wd) (k : Nat) : ∀ n, (rowsR wd X0 X1 Y0 f n E)[k]? = E[k]?.map fun d => if (Y0 ≤ k / wd ∧ k / wd < Y0 + n) ∧ X0 ≤ k % wd ∧ k % wd < X1 then f (k / wd) k d else d
  | 0 => by
    rw [rowsR]
    cases E[k]? with
    | none => rfl
    | some d =>
      rw [Option.map_some, if_neg (by omega)]
  | n + 1 => by
    rw [rowsR, mapR_get, rowsR_get wd X0 X1 Y0 f E hx k n]
    cases hd : E[k]? with
    | none => rfl
    | some d =>
      rw [Option.map_some, Option.map_some, Option.map_some]
      congr 1
      have e := Nat.div_add_mod k wd
      rw [Nat.mul_comm] at e
      by_cases hw : wd = 0
      · subst hw
        rw [if_neg (by omega), if_neg (by omega), if_neg (by omega)]
      have hl := Nat.mod_lt k (Nat.pos_of_ne_zero hw)
      by_cases h : k / wd = Y0 + n
      · rw [if_neg (show ¬ ((Y0 ≤ k / wd ∧ k / wd < Y0 + n) ∧ X0 ≤ k % wd ∧ k % wd < X1) by omega)]
        by_cases h2 : X0 ≤ k % wd ∧ k % wd < X1
        · rw [if_pos (by rw [← h]; omega), if_pos ⟨by omega, h2⟩, h]
        · rw [if_neg (by rw [← h]; omega), if_neg (by omega)]
      · have h3 : ¬ ((Y0 + n) * wd + X0 ≤ k ∧ k < (Y0 + n) * wd + X1) := by
          rintro ⟨h4, h5⟩
          apply h
          exact Nat.div_eq_of_lt_le (by omega) (by rw [Nat.add_mul, Nat.one_mul]; omega)
        rw [if_neg h3]
        by_cases h2 : (Y0 ≤ k / wd ∧ k / wd < Y0 + n) ∧ X0 ≤ k % wd ∧ k % wd < X1
        · rw [if_pos h2, if_pos (by omega)]
        · rw [if_neg h2, if_neg (by omega)]
/-- What a box and a canvas have in common. -/
theorem meet_cn (wd ht : Nat) (B : Q) (hd : 1 ≤ wd ∧ 1 ≤ ht) : ∃ X0 Y0 X1 Y1 : Nat, meetR ⟨0, 0, wd, ht⟩ B = ⟨X0, Y0, X1, Y1⟩ ∧ (X0 ≤ X1 ∧ X1 ≤ wd ∧ (Y0 < Y1 → X0 < X1)) ∧ (Y0 ≤ Y1 ∧ Y1 ≤ ht) ∧ (Y0 < Y1 → B.x0 ≤ X0 ∧ X1 ≤ B.x1 ∧ B.y0 ≤ Y0 ∧ Y1 ≤ B.y1) ∧
    ∀ x y : Nat, x < wd → y < ht → (((Y0 ≤ y ∧ y < Y1) ∧ X0 ≤ x ∧ x < X1) ↔ (B.x0 ≤ x ∧ x < B.x1 ∧ B.y0 ≤ y ∧ y < B.y1)) := by
  have mx : ∀ x y : Int, ∃ a, max x y = a ∧ x ≤ a ∧ y ≤ a ∧ (a = x ∨ a = y) := fun x y => ⟨_, rfl, Int.le_max_left _ _, Int.le_max_right _ _, by rw [Int.max_def]; split <;> simp⟩
  have mn : ∀ x y : Int, ∃ a, min x y = a ∧ a ≤ x ∧ a ≤ y ∧ (a = x ∨ a = y) := fun x y => ⟨_, rfl, Int.min_le_left _ _, Int.min_le_right _ _, by rw [Int.min_def]; split <;> simp⟩
  obtain ⟨a, ea, a1, a2, a3⟩ := mx 0 B.x0
  obtain ⟨b, eb, b1, b2, b3⟩ := mx 0 B.y0
  obtain ⟨c, ec, c1, c2, c3⟩ := mn (wd : Int) B.x1
  obtain ⟨d, ed, d1, d2, d3⟩ := mn (ht : Int) B.y1
  have em : meetQ ⟨0, 0, wd, ht⟩ B = ⟨a, b, c, d⟩ := by
    rw [← ea, ← eb, ← ec, ← ed]; rfl
  unfold meetR plainQ
  rw [em]
  by_cases he : emptyQ ⟨a, b, c, d⟩ = true
  · rw [if_pos he]
    refine ⟨0, 0, 0, 0, rfl, by omega, by omega, by omega, fun x y hx hy => ?_⟩
    have he' : c ≤ a ∨ d ≤ b := by simpa [emptyQ] using he
    omega
  · rw [if_neg he]
    have he' : ¬ (c ≤ a ∨ d ≤ b) := by simpa [emptyQ] using he
    refine ⟨a.toNat, b.toNat, c.toNat, d.toNat, ?_, ?_, ?_, ?_, fun x y hx hy => ?_⟩
    · simp only [Q.mk.injEq]
      omega
    all_goals omega
end Go.Proofs.Ytlbbigehjdnjmaa
