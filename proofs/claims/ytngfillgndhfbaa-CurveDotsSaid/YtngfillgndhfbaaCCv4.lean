/- Part 5 of the proof: CvT. -/
import Derived.Test.YtngfillgndhfbaaCCv3

namespace Go.Proofs.Ytngfillgndhfbaa
open Go Go.RowKit
set_option linter.unusedVariables false
set_option linter.unusedSimpArgs false


theorem bTurn (k xa ya xd yd : Int) : Try.prog.built 25 [(0, .int .i64 k), (1, .agg #[.int .i64 xd, .int .i64 yd]), (4, .agg #[.int .i64 xa, .int .i64 ya])] = some #[.int .i64 k, .int .i64 xd, .int .i64 yd, .int .i64 0, .int .i64 0, .int .i64 0, .int .i64 0, .int .i64 xa, .int .i64 ya] := by kernel_rfl
theorem wpList_build_toC {P : Program} {ops : Array Oper} {rest : List Oper} {o : Oper} {a : Act} {w : World} {Q : Exit → Act → World → Prop} (hg : o.guard = none) (t : TypeId) (parts : Array (Nat × Operand)) (ho : o.op = .build t parts)
    (l : List (Nat × Value)) (hl : (parts.map fun (i, x) => (i, a.eval x)).toList = l) (v : Array Value) (hf : P.built t l = some v) (h : wpList P ops Q rest (a.put o.dst (.agg v)) w) : wpList P ops Q (o :: rest) a w := by
  subst hl
  exact wpList_build hg t parts ho (by rw [hf]; rfl) (by rw [hf]; exact h)
theorem Blk.rowO {w : World} {p q : Nat} {T : TypeId} {cs cs1 : Array Value} (h : Blk w p T cs) (hq : p ≠ q) : Blk (w.setRow q cs1) p T cs := (setRow_other w q p cs1 (fun e => hq (by first | exact e | exact e.symm))).trans h
theorem Blk.low {w w1 : World} {p B : Nat} {T : TypeId} {cs : Array Value} (h : Blk w p T cs) (k : Below B w w1) (hp : p < B) : Blk w1 p T cs := (k.block p hp).trans h
def trn (c : Bw) : Bw := if c.k = 2 then ⟨c.k, c.xd, c.yd, c.xb, c.yb, 0, 0, c.xa, c.ya⟩ else if c.k = 3 then ⟨c.k, c.xd, c.yd, c.xc, c.yc, c.xb, c.yb, c.xa, c.ya⟩ else ⟨c.k, c.xd, c.yd, 0, 0, 0, 0, c.xa, c.ya⟩
set_option maxRecDepth 100000 in
set_option maxHeartbeats 2000000 in
theorem turnc_2 (xa ya xb yb xc yc xd yd : Int) (w : World) : Calls Try.prog 13 #[.agg #[.int .i64 2, .int .i64 xa, .int .i64 ya, .int .i64 xb, .int .i64 yb, .int .i64 xc, .int .i64 yc, .int .i64 xd, .int .i64 yd]] w fun e w' => e = .returned (.agg #[.int .i64 2, .int .i64 xd, .int .i64 yd, .int .i64 xb, .int .i64 yb, .int .i64 0, .int .i64 0, .int .i64 xa, .int .i64 ya]) ∧ Below w.heap.size w w' := by
  have BB := bTurn 2 xa ya xd yd
  have K2 := Blk.new (w.alloc (.cells #[.int .i64 2, .int .i64 xa, .int .i64 ya, .int .i64 xb, .int .i64 yb, .int .i64 xc, .int .i64 yc, .int .i64 xd, .int .i64 yd] 25)) 25 #[.int .i64 0, .int .i64 0, .int .i64 0, .int .i64 0, .int .i64 0, .int .i64 0, .int .i64 0, .int .i64 0, .int .i64 0]
  have K3 := Blk.new ((w.alloc (.cells #[.int .i64 2, .int .i64 xa, .int .i64 ya, .int .i64 xb, .int .i64 yb, .int .i64 xc, .int .i64 yc, .int .i64 xd, .int .i64 yd] 25)).alloc (.cells #[.int .i64 0, .int .i64 0, .int .i64 0, .int .i64 0, .int .i64 0, .int .i64 0, .int .i64 0, .int .i64 0, .int .i64 0] 25)) 25 #[.int .i64 0, .int .i64 0, .int .i64 0, .int .i64 0, .int .i64 0, .int .i64 0, .int .i64 0, .int .i64 0, .int .i64 0]
  have B3 := below_a3 w (.cells #[.int .i64 2, .int .i64 xa, .int .i64 ya, .int .i64 xb, .int .i64 yb, .int .i64 xc, .int .i64 yc, .int .i64 xd, .int .i64 yd] 25) (.cells #[.int .i64 0, .int .i64 0, .int .i64 0, .int .i64 0, .int .i64 0, .int .i64 0, .int .i64 0, .int .i64 0, .int .i64 0] 25) (.cells #[.int .i64 0, .int .i64 0, .int .i64 0, .int .i64 0, .int .i64 0, .int .i64 0, .int .i64 0, .int .i64 0, .int .i64 0] 25)
  simp only [World.size_alloc] at K2 K3
  have K2 := K2.below (below_a1 _ (.cells #[.int .i64 0, .int .i64 0, .int .i64 0, .int .i64 0, .int .i64 0, .int .i64 0, .int .i64 0, .int .i64 0, .int .i64 0] 25))
  have KR := blk_row K3 #[.int .i64 2, .int .i64 xd, .int .i64 yd, .int .i64 0, .int .i64 0, .int .i64 0, .int .i64 0, .int .i64 xa, .int .i64 ya]
  have KQ : Blk _ (w.heap.size + 1) 25 #[.int .i64 0, .int .i64 0, .int .i64 0, .int .i64 0, .int .i64 0, .int .i64 0, .int .i64 0, .int .i64 0, .int .i64 0] := Blk.rowO (cs1 := #[.int .i64 2, .int .i64 xd, .int .i64 yd, .int .i64 0, .int .i64 0, .int .i64 0, .int .i64 0, .int .i64 xa, .int .i64 ya]) K2 (q := w.heap.size + 1 + 1) (by omega)
  have r3 := KR.cell 3
  have r4 := KR.cell 4
  have r5 := KR.cell 5
  have r6 := KR.cell 6
  have z3 := KR.frozen 3
  have z4 := KR.frozen 4
  have z5 := KR.frozen 5
  have z6 := KR.frozen 6
  have K1 := (Blk.new w 25 #[.int .i64 2, .int .i64 xa, .int .i64 ya, .int .i64 xb, .int .i64 yb, .int .i64 xc, .int .i64 yc, .int .i64 xd, .int .i64 yd]).below (below_a2 _ (.cells #[.int .i64 0, .int .i64 0, .int .i64 0, .int .i64 0, .int .i64 0, .int .i64 0, .int .i64 0, .int .i64 0, .int .i64 0] 25) (.cells #[.int .i64 0, .int .i64 0, .int .i64 0, .int .i64 0, .int .i64 0, .int .i64 0, .int .i64 0, .int .i64 0, .int .i64 0] 25))
  have KX : Blk _ w.heap.size 25 #[.int .i64 2, .int .i64 xa, .int .i64 ya, .int .i64 xb, .int .i64 yb, .int .i64 xc, .int .i64 yc, .int .i64 xd, .int .i64 yd] := Blk.rowO (cs1 := #[.int .i64 2, .int .i64 xd, .int .i64 yd, .int .i64 0, .int .i64 0, .int .i64 0, .int .i64 0, .int .i64 xa, .int .i64 ya]) K1 (q := w.heap.size + 1 + 1) (by omega)
  have b0 := KX.cell 0
  have b1 := KX.cell 1
  have b2 := KX.cell 2
  have b3 := KX.cell 3
  have b4 := KX.cell 4
  have b5 := KX.cell 5
  have b6 := KX.cell 6
  have b7 := KX.cell 7
  have b8 := KX.cell 8
  have HKX := Lib.hid KX
  have HK2 := Lib.hid KQ
  have HK3 := Lib.hid K3
  have HKR := Lib.hid KR
  have HB3 := Lib.hid (below_setRow B3 (g := w.heap.size + 1 + 1) (by omega) #[.int .i64 2, .int .i64 xd, .int .i64 yd, .int .i64 0, .int .i64 0, .int .i64 0, .int .i64 0, .int .i64 xa, .int .i64 ya])
  simp only [List.getElem?_toArray, List.getElem?_cons_succ, List.getElem?_cons_zero] at r3 r4 r5 r6 b0 b1 b2 b3 b4 b5 b6 b7 b8
  clear K1 K2 K3 KR KQ B3 KX
  go_enter Try.func13, Try.ntmps13
  go_wp2_with (first | (refine wpList_build_toC rfl 25 #[(0, .tmp 5), (1, .tmp 7), (4, .tmp 9)] (by with_reducible rfl) [(0, .int .i64 2), (1, .agg #[.int .i64 xd, .int .i64 yd]), (4, .agg #[.int .i64 xa, .int .i64 ya])] (by rfl) #[.int .i64 2, .int .i64 xd, .int .i64 yd, .int .i64 0, .int .i64 0, .int .i64 0, .int .i64 0, .int .i64 xa, .int .i64 ya] BB ?_) | (refine wpList_store_row rfl 25 (.tmp 3) (.tmp 10) (by with_reducible rfl) (w.heap.size + 1 + 1) #[.int .i64 2, .int .i64 xd, .int .i64 yd, .int .i64 0, .int .i64 0, .int .i64 0, .int .i64 0, .int .i64 xa, .int .i64 ya] (by rfl) (by rfl) 25 #[.int .i64 0, .int .i64 0, .int .i64 0, .int .i64 0, .int .i64 0, .int .i64 0, .int .i64 0, .int .i64 0, .int .i64 0] (by exact HK3.out) bwInfo rfl (by simp [Value.oneCell']) ?_) | (refine wpList_load_row rfl 25 (.tmp 3) (by with_reducible rfl) (w.heap.size + 1 + 1) (by rfl) 25 #[.int .i64 2, .int .i64 xd, .int .i64 yd, .int .i64 xb, .int .i64 yb, .int .i64 0, .int .i64 0, .int .i64 xa, .int .i64 ya] (0, 0) _ (by exact (show Blk _ _ _ _ from (HKR.out.set 3 (.int .i64 xb)).set 4 (.int .i64 yb))) Try.underlying25 rfl bwInfo ?_) | (refine wpList_store_row rfl 25 (.tmp 2) (.tmp 26) (by with_reducible rfl) (w.heap.size + 1) #[.int .i64 2, .int .i64 xd, .int .i64 yd, .int .i64 xb, .int .i64 yb, .int .i64 0, .int .i64 0, .int .i64 xa, .int .i64 ya] (by rfl) (by rfl) 25 #[.int .i64 0, .int .i64 0, .int .i64 0, .int .i64 0, .int .i64 0, .int .i64 0, .int .i64 0, .int .i64 0, .int .i64 0] (by exact ((HK2.out.other (q := ⟨w.heap.size + 1 + 1, 3, none⟩) (by simp) (.int .i64 xb)).other (q := ⟨w.heap.size + 1 + 1, 4, none⟩) (by simp) (.int .i64 yb))) bwInfo rfl (by simp [Value.oneCell']) ?_))
  exact bodyPost_ret (results_cell_row Try.results13 _ _ (w.heap.size + 1) 25 #[.int .i64 2, .int .i64 xd, .int .i64 yd, .int .i64 xb, .int .i64 yb, .int .i64 0, .int .i64 0, .int .i64 xa, .int .i64 ya] (0, 0) _ (by rfl) (show Blk _ _ _ _ from blk_row ((HK2.out.other (q := ⟨w.heap.size + 1 + 1, 3, none⟩) (by simp) (.int .i64 xb)).other (q := ⟨w.heap.size + 1 + 1, 4, none⟩) (by simp) (.int .i64 yb)) _) Try.underlying25 rfl bwInfo) rfl ⟨rfl, below_setRow ((HB3.out.setCell (p := ⟨w.heap.size + 1 + 1, 3, none⟩) (by simp; omega) (.int .i64 xb)).setCell (p := ⟨w.heap.size + 1 + 1, 4, none⟩) (by simp; omega) (.int .i64 yb)) (by omega) _⟩
set_option maxRecDepth 100000 in
set_option maxHeartbeats 2000000 in
theorem turnc_n (k : Int) (xa ya xb yb xc yc xd yd : Int) (w : World) (h2 : (k == 2) = false) (h3 : (k == 3) = false) : Calls Try.prog 13 #[.agg #[.int .i64 k, .int .i64 xa, .int .i64 ya, .int .i64 xb, .int .i64 yb, .int .i64 xc, .int .i64 yc, .int .i64 xd, .int .i64 yd]] w fun e w' => e = .returned (.agg #[.int .i64 k, .int .i64 xd, .int .i64 yd, .int .i64 0, .int .i64 0, .int .i64 0, .int .i64 0, .int .i64 xa, .int .i64 ya]) ∧ Below w.heap.size w w' := by
  have BB := bTurn k xa ya xd yd
  have K2 := Blk.new (w.alloc (.cells #[.int .i64 k, .int .i64 xa, .int .i64 ya, .int .i64 xb, .int .i64 yb, .int .i64 xc, .int .i64 yc, .int .i64 xd, .int .i64 yd] 25)) 25 #[.int .i64 0, .int .i64 0, .int .i64 0, .int .i64 0, .int .i64 0, .int .i64 0, .int .i64 0, .int .i64 0, .int .i64 0]
  have K3 := Blk.new ((w.alloc (.cells #[.int .i64 k, .int .i64 xa, .int .i64 ya, .int .i64 xb, .int .i64 yb, .int .i64 xc, .int .i64 yc, .int .i64 xd, .int .i64 yd] 25)).alloc (.cells #[.int .i64 0, .int .i64 0, .int .i64 0, .int .i64 0, .int .i64 0, .int .i64 0, .int .i64 0, .int .i64 0, .int .i64 0] 25)) 25 #[.int .i64 0, .int .i64 0, .int .i64 0, .int .i64 0, .int .i64 0, .int .i64 0, .int .i64 0, .int .i64 0, .int .i64 0]
  have B3 := below_a3 w (.cells #[.int .i64 k, .int .i64 xa, .int .i64 ya, .int .i64 xb, .int .i64 yb, .int .i64 xc, .int .i64 yc, .int .i64 xd, .int .i64 yd] 25) (.cells #[.int .i64 0, .int .i64 0, .int .i64 0, .int .i64 0, .int .i64 0, .int .i64 0, .int .i64 0, .int .i64 0, .int .i64 0] 25) (.cells #[.int .i64 0, .int .i64 0, .int .i64 0, .int .i64 0, .int .i64 0, .int .i64 0, .int .i64 0, .int .i64 0, .int .i64 0] 25)
  simp only [World.size_alloc] at K2 K3
  have K2 := K2.below (below_a1 _ (.cells #[.int .i64 0, .int .i64 0, .int .i64 0, .int .i64 0, .int .i64 0, .int .i64 0, .int .i64 0, .int .i64 0, .int .i64 0] 25))
  have KR := blk_row K3 #[.int .i64 k, .int .i64 xd, .int .i64 yd, .int .i64 0, .int .i64 0, .int .i64 0, .int .i64 0, .int .i64 xa, .int .i64 ya]
  have KQ : Blk _ (w.heap.size + 1) 25 #[.int .i64 0, .int .i64 0, .int .i64 0, .int .i64 0, .int .i64 0, .int .i64 0, .int .i64 0, .int .i64 0, .int .i64 0] := Blk.rowO (cs1 := #[.int .i64 k, .int .i64 xd, .int .i64 yd, .int .i64 0, .int .i64 0, .int .i64 0, .int .i64 0, .int .i64 xa, .int .i64 ya]) K2 (q := w.heap.size + 1 + 1) (by omega)
  have r3 := KR.cell 3
  have r4 := KR.cell 4
  have r5 := KR.cell 5
  have r6 := KR.cell 6
  have z3 := KR.frozen 3
  have z4 := KR.frozen 4
  have z5 := KR.frozen 5
  have z6 := KR.frozen 6
  have K1 := (Blk.new w 25 #[.int .i64 k, .int .i64 xa, .int .i64 ya, .int .i64 xb, .int .i64 yb, .int .i64 xc, .int .i64 yc, .int .i64 xd, .int .i64 yd]).below (below_a2 _ (.cells #[.int .i64 0, .int .i64 0, .int .i64 0, .int .i64 0, .int .i64 0, .int .i64 0, .int .i64 0, .int .i64 0, .int .i64 0] 25) (.cells #[.int .i64 0, .int .i64 0, .int .i64 0, .int .i64 0, .int .i64 0, .int .i64 0, .int .i64 0, .int .i64 0, .int .i64 0] 25))
  have KX : Blk _ w.heap.size 25 #[.int .i64 k, .int .i64 xa, .int .i64 ya, .int .i64 xb, .int .i64 yb, .int .i64 xc, .int .i64 yc, .int .i64 xd, .int .i64 yd] := Blk.rowO (cs1 := #[.int .i64 k, .int .i64 xd, .int .i64 yd, .int .i64 0, .int .i64 0, .int .i64 0, .int .i64 0, .int .i64 xa, .int .i64 ya]) K1 (q := w.heap.size + 1 + 1) (by omega)
  have b0 := KX.cell 0
  have b1 := KX.cell 1
  have b2 := KX.cell 2
  have b3 := KX.cell 3
  have b4 := KX.cell 4
  have b5 := KX.cell 5
  have b6 := KX.cell 6
  have b7 := KX.cell 7
  have b8 := KX.cell 8
  have HKX := Lib.hid KX
  have HK2 := Lib.hid KQ
  have HK3 := Lib.hid K3
  have HKR := Lib.hid KR
  have HB3 := Lib.hid (below_setRow B3 (g := w.heap.size + 1 + 1) (by omega) #[.int .i64 k, .int .i64 xd, .int .i64 yd, .int .i64 0, .int .i64 0, .int .i64 0, .int .i64 0, .int .i64 xa, .int .i64 ya])
  simp only [List.getElem?_toArray, List.getElem?_cons_succ, List.getElem?_cons_zero] at r3 r4 r5 r6 b0 b1 b2 b3 b4 b5 b6 b7 b8
  clear K1 K2 K3 KR KQ B3 KX
  go_enter Try.func13, Try.ntmps13
  go_wp2_with (first | (refine wpList_build_toC rfl 25 #[(0, .tmp 5), (1, .tmp 7), (4, .tmp 9)] (by with_reducible rfl) [(0, .int .i64 k), (1, .agg #[.int .i64 xd, .int .i64 yd]), (4, .agg #[.int .i64 xa, .int .i64 ya])] (by rfl) #[.int .i64 k, .int .i64 xd, .int .i64 yd, .int .i64 0, .int .i64 0, .int .i64 0, .int .i64 0, .int .i64 xa, .int .i64 ya] BB ?_) | (refine wpList_store_row rfl 25 (.tmp 3) (.tmp 10) (by with_reducible rfl) (w.heap.size + 1 + 1) #[.int .i64 k, .int .i64 xd, .int .i64 yd, .int .i64 0, .int .i64 0, .int .i64 0, .int .i64 0, .int .i64 xa, .int .i64 ya] (by rfl) (by rfl) 25 #[.int .i64 0, .int .i64 0, .int .i64 0, .int .i64 0, .int .i64 0, .int .i64 0, .int .i64 0, .int .i64 0, .int .i64 0] (by exact HK3.out) bwInfo rfl (by simp [Value.oneCell']) ?_) | (refine wpList_load_row rfl 25 (.tmp 3) (by with_reducible rfl) (w.heap.size + 1 + 1) (by rfl) 25 #[.int .i64 k, .int .i64 xd, .int .i64 yd, .int .i64 0, .int .i64 0, .int .i64 0, .int .i64 0, .int .i64 xa, .int .i64 ya] (0, 0) _ (by exact HKR.out) Try.underlying25 rfl bwInfo ?_) | (refine wpList_store_row rfl 25 (.tmp 2) (.tmp 26) (by with_reducible rfl) (w.heap.size + 1) #[.int .i64 k, .int .i64 xd, .int .i64 yd, .int .i64 0, .int .i64 0, .int .i64 0, .int .i64 0, .int .i64 xa, .int .i64 ya] (by rfl) (by rfl) 25 #[.int .i64 0, .int .i64 0, .int .i64 0, .int .i64 0, .int .i64 0, .int .i64 0, .int .i64 0, .int .i64 0, .int .i64 0] (by exact HK2.out) bwInfo rfl (by simp [Value.oneCell']) ?_))
  exact bodyPost_ret (results_cell_row Try.results13 _ _ (w.heap.size + 1) 25 #[.int .i64 k, .int .i64 xd, .int .i64 yd, .int .i64 0, .int .i64 0, .int .i64 0, .int .i64 0, .int .i64 xa, .int .i64 ya] (0, 0) _ (by rfl) (show Blk _ _ _ _ from blk_row HK2.out _) Try.underlying25 rfl bwInfo) rfl ⟨rfl, below_setRow HB3.out (by omega) _⟩
set_option maxRecDepth 100000 in
set_option maxHeartbeats 2000000 in
theorem turnc_3 (xa ya xb yb xc yc xd yd : Int) (w : World) : Calls Try.prog 13 #[.agg #[.int .i64 3, .int .i64 xa, .int .i64 ya, .int .i64 xb, .int .i64 yb, .int .i64 xc, .int .i64 yc, .int .i64 xd, .int .i64 yd]] w fun e w' => e = .returned (.agg #[.int .i64 3, .int .i64 xd, .int .i64 yd, .int .i64 xc, .int .i64 yc, .int .i64 xb, .int .i64 yb, .int .i64 xa, .int .i64 ya]) ∧ Below w.heap.size w w' := by
  have BB := bTurn 3 xa ya xd yd
  have K2 := Blk.new (w.alloc (.cells #[.int .i64 3, .int .i64 xa, .int .i64 ya, .int .i64 xb, .int .i64 yb, .int .i64 xc, .int .i64 yc, .int .i64 xd, .int .i64 yd] 25)) 25 #[.int .i64 0, .int .i64 0, .int .i64 0, .int .i64 0, .int .i64 0, .int .i64 0, .int .i64 0, .int .i64 0, .int .i64 0]
  have K3 := Blk.new ((w.alloc (.cells #[.int .i64 3, .int .i64 xa, .int .i64 ya, .int .i64 xb, .int .i64 yb, .int .i64 xc, .int .i64 yc, .int .i64 xd, .int .i64 yd] 25)).alloc (.cells #[.int .i64 0, .int .i64 0, .int .i64 0, .int .i64 0, .int .i64 0, .int .i64 0, .int .i64 0, .int .i64 0, .int .i64 0] 25)) 25 #[.int .i64 0, .int .i64 0, .int .i64 0, .int .i64 0, .int .i64 0, .int .i64 0, .int .i64 0, .int .i64 0, .int .i64 0]
  have B3 := below_a3 w (.cells #[.int .i64 3, .int .i64 xa, .int .i64 ya, .int .i64 xb, .int .i64 yb, .int .i64 xc, .int .i64 yc, .int .i64 xd, .int .i64 yd] 25) (.cells #[.int .i64 0, .int .i64 0, .int .i64 0, .int .i64 0, .int .i64 0, .int .i64 0, .int .i64 0, .int .i64 0, .int .i64 0] 25) (.cells #[.int .i64 0, .int .i64 0, .int .i64 0, .int .i64 0, .int .i64 0, .int .i64 0, .int .i64 0, .int .i64 0, .int .i64 0] 25)
  simp only [World.size_alloc] at K2 K3
  have K2 := K2.below (below_a1 _ (.cells #[.int .i64 0, .int .i64 0, .int .i64 0, .int .i64 0, .int .i64 0, .int .i64 0, .int .i64 0, .int .i64 0, .int .i64 0] 25))
  have KR := blk_row K3 #[.int .i64 3, .int .i64 xd, .int .i64 yd, .int .i64 0, .int .i64 0, .int .i64 0, .int .i64 0, .int .i64 xa, .int .i64 ya]
  have KQ : Blk _ (w.heap.size + 1) 25 #[.int .i64 0, .int .i64 0, .int .i64 0, .int .i64 0, .int .i64 0, .int .i64 0, .int .i64 0, .int .i64 0, .int .i64 0] := Blk.rowO (cs1 := #[.int .i64 3, .int .i64 xd, .int .i64 yd, .int .i64 0, .int .i64 0, .int .i64 0, .int .i64 0, .int .i64 xa, .int .i64 ya]) K2 (q := w.heap.size + 1 + 1) (by omega)
  have r3 := KR.cell 3
  have r4 := KR.cell 4
  have r5 := KR.cell 5
  have r6 := KR.cell 6
  have z3 := KR.frozen 3
  have z4 := KR.frozen 4
  have z5 := KR.frozen 5
  have z6 := KR.frozen 6
  have K1 := (Blk.new w 25 #[.int .i64 3, .int .i64 xa, .int .i64 ya, .int .i64 xb, .int .i64 yb, .int .i64 xc, .int .i64 yc, .int .i64 xd, .int .i64 yd]).below (below_a2 _ (.cells #[.int .i64 0, .int .i64 0, .int .i64 0, .int .i64 0, .int .i64 0, .int .i64 0, .int .i64 0, .int .i64 0, .int .i64 0] 25) (.cells #[.int .i64 0, .int .i64 0, .int .i64 0, .int .i64 0, .int .i64 0, .int .i64 0, .int .i64 0, .int .i64 0, .int .i64 0] 25))
  have KX : Blk _ w.heap.size 25 #[.int .i64 3, .int .i64 xa, .int .i64 ya, .int .i64 xb, .int .i64 yb, .int .i64 xc, .int .i64 yc, .int .i64 xd, .int .i64 yd] := Blk.rowO (cs1 := #[.int .i64 3, .int .i64 xd, .int .i64 yd, .int .i64 0, .int .i64 0, .int .i64 0, .int .i64 0, .int .i64 xa, .int .i64 ya]) K1 (q := w.heap.size + 1 + 1) (by omega)
  have b0 := KX.cell 0
  have b1 := KX.cell 1
  have b2 := KX.cell 2
  have b3 := KX.cell 3
  have b4 := KX.cell 4
  have b5 := KX.cell 5
  have b6 := KX.cell 6
  have b7 := KX.cell 7
  have b8 := KX.cell 8
  have HKX := Lib.hid KX
  have HK2 := Lib.hid KQ
  have HK3 := Lib.hid K3
  have HKR := Lib.hid KR
  have HB3 := Lib.hid (below_setRow B3 (g := w.heap.size + 1 + 1) (by omega) #[.int .i64 3, .int .i64 xd, .int .i64 yd, .int .i64 0, .int .i64 0, .int .i64 0, .int .i64 0, .int .i64 xa, .int .i64 ya])
  simp only [List.getElem?_toArray, List.getElem?_cons_succ, List.getElem?_cons_zero] at r3 r4 r5 r6 b0 b1 b2 b3 b4 b5 b6 b7 b8
  obtain ⟨W0, hW0⟩ : ∃ W0, W0 = (((w.alloc (.cells #[.int .i64 3, .int .i64 xa, .int .i64 ya, .int .i64 xb, .int .i64 yb, .int .i64 xc, .int .i64 yc, .int .i64 xd, .int .i64 yd] 25)).alloc (.cells #[.int .i64 0, .int .i64 0, .int .i64 0, .int .i64 0, .int .i64 0, .int .i64 0, .int .i64 0, .int .i64 0, .int .i64 0] 25)).alloc (.cells #[.int .i64 0, .int .i64 0, .int .i64 0, .int .i64 0, .int .i64 0, .int .i64 0, .int .i64 0, .int .i64 0, .int .i64 0] 25)).setRow (w.heap.size + 1 + 1) #[.int .i64 3, .int .i64 xd, .int .i64 yd, .int .i64 0, .int .i64 0, .int .i64 0, .int .i64 0, .int .i64 xa, .int .i64 ya] := ⟨_, rfl⟩
  have HW0 := Lib.hid hW0
  rw [← hW0] at HK2 HKR HB3 HKX
  have HX : ∀ V, Below (w.heap.size + 1 + 1) W0 V → V.cell? ⟨w.heap.size, 0, none⟩ = some (.int .i64 3) ∧ V.cell? ⟨w.heap.size, 1, none⟩ = some (.int .i64 xa) ∧ V.cell? ⟨w.heap.size, 2, none⟩ = some (.int .i64 ya) ∧ V.cell? ⟨w.heap.size, 3, none⟩ = some (.int .i64 xb) ∧ V.cell? ⟨w.heap.size, 4, none⟩ = some (.int .i64 yb) ∧ V.cell? ⟨w.heap.size, 5, none⟩ = some (.int .i64 xc) ∧ V.cell? ⟨w.heap.size, 6, none⟩ = some (.int .i64 yc) ∧ V.cell? ⟨w.heap.size, 7, none⟩ = some (.int .i64 xd) ∧ V.cell? ⟨w.heap.size, 8, none⟩ = some (.int .i64 yd) ∧ w.heap.size < V.heap.size := fun V hV => ⟨(HKX.out.low hV (by omega)).cell 0, (HKX.out.low hV (by omega)).cell 1, (HKX.out.low hV (by omega)).cell 2, (HKX.out.low hV (by omega)).cell 3, (HKX.out.low hV (by omega)).cell 4, (HKX.out.low hV (by omega)).cell 5, (HKX.out.low hV (by omega)).cell 6, (HKX.out.low hV (by omega)).cell 7, (HKX.out.low hV (by omega)).cell 8, (HKX.out.low hV (by omega)).lt⟩
  clear K1 K2 K3 KR KQ B3 KX hW0
  go_enter Try.func13, Try.ntmps13
  go_wp2_with (first | (refine wpList_build_toC rfl 25 #[(0, .tmp 5), (1, .tmp 7), (4, .tmp 9)] (by with_reducible rfl) [(0, .int .i64 3), (1, .agg #[.int .i64 xd, .int .i64 yd]), (4, .agg #[.int .i64 xa, .int .i64 ya])] (by rfl) #[.int .i64 3, .int .i64 xd, .int .i64 yd, .int .i64 0, .int .i64 0, .int .i64 0, .int .i64 0, .int .i64 xa, .int .i64 ya] BB ?_) | (refine wpList_store_row rfl 25 (.tmp 3) (.tmp 10) (by with_reducible rfl) (w.heap.size + 1 + 1) #[.int .i64 3, .int .i64 xd, .int .i64 yd, .int .i64 0, .int .i64 0, .int .i64 0, .int .i64 0, .int .i64 xa, .int .i64 ya] (by rfl) (by rfl) 25 #[.int .i64 0, .int .i64 0, .int .i64 0, .int .i64 0, .int .i64 0, .int .i64 0, .int .i64 0, .int .i64 0, .int .i64 0] (by exact HK3.out) bwInfo rfl (by simp [Value.oneCell']) ?_))
  rw [← HW0.out]
  clear b0 b1 b2 b3 b4 b5 b6 b7 b8 r3 r4 r5 r6 z3 z4 z5 z6
  have hI : Below (w.heap.size + 1 + 1) W0 W0.drew := (Below.refl _ _).drew
  have KS := HKR.out.low ((Below.refl _ _).drew : Below W0.heap.size W0 W0.drew) HKR.out.lt
  have s3 := HKR.out.cell 3
  have s4 := HKR.out.cell 4
  have s5 := HKR.out.cell 5
  have s6 := HKR.out.cell 6
  have t3 := HKR.out.frozen 3
  have t4 := HKR.out.frozen 4
  have t5 := HKR.out.frozen 5
  have t6 := HKR.out.frozen 6
  have sl := HKR.out.lt
  simp only [List.getElem?_toArray, List.getElem?_cons_succ, List.getElem?_cons_zero] at s3 s4 s5 s6
  refine wp_region_chain (fun V => Below (w.heap.size + 1 + 1) W0 V) [(0, false), (1, false), (2, false), (3, false), (4, false), (5, true), (6, false), (7, true)] (by kernel_rfl) (by kernel_rfl) hI ?_
  repeat (first
    | (refine ChainL.skip (o := ?_) ?_ ?_ ?_; rotate_left; (focus (first | (simp only [List.getElem?_toArray, List.getElem?_cons_succ, List.getElem?_cons_zero]; with_reducible rfl) | (simp only [List.getElem?_toArray, List.getElem?_cons_zero]; with_reducible rfl))); (focus rfl); simp only [Act.put, List.setIfInBounds_toArray, List.set_cons_zero, List.set_cons_succ])
    | (refine ChainL.val (o := ?_) (v := ?_) ?_ ?_ ?_ ?_ ?_; rotate_left 2; (focus (first | (simp only [List.getElem?_toArray, List.getElem?_cons_succ, List.getElem?_cons_zero]; with_reducible rfl) | (simp only [List.getElem?_toArray, List.getElem?_cons_zero]; with_reducible rfl))); (focus (intro _ _ h; cases h)); (focus rfl); (focus (intro w' hJ; obtain ⟨y0, y1, y2, y3, y4, y5, y6, y7, y8, yl⟩ := HX _ hJ; go_simp <;> with_reducible rfl)); simp only [Act.put, List.setIfInBounds_toArray, List.set_cons_zero, List.set_cons_succ]))
  refine ChainL.store (o := ?_) (w1 := (W0.drew.setCell ⟨w.heap.size + 1 + 1, 3, none⟩ (.int .i64 xc)).setCell ⟨w.heap.size + 1 + 1, 4, none⟩ (.int .i64 yc)) ?_ ?_ ?_ ?_ ?_
  rotate_left
  (focus (first | (simp only [List.getElem?_toArray, List.getElem?_cons_succ, List.getElem?_cons_zero]; with_reducible rfl) | (simp only [List.getElem?_toArray, List.getElem?_cons_zero]; with_reducible rfl)))
  (focus rfl)
  (focus (go_simp))
  (focus (exact (hI.setCell (p := ⟨w.heap.size + 1 + 1, 3, none⟩) (Nat.le_refl _) _).setCell (p := ⟨w.heap.size + 1 + 1, 4, none⟩) (Nat.le_refl _) _))
  (try (simp only [Act.put, List.setIfInBounds_toArray, List.set_cons_zero, List.set_cons_succ]))
  repeat (first
    | (refine ChainL.skip (o := ?_) ?_ ?_ ?_; rotate_left; (focus (first | (simp only [List.getElem?_toArray, List.getElem?_cons_succ, List.getElem?_cons_zero]; with_reducible rfl) | (simp only [List.getElem?_toArray, List.getElem?_cons_zero]; with_reducible rfl))); (focus rfl); simp only [Act.put, List.setIfInBounds_toArray, List.set_cons_zero, List.set_cons_succ])
    | (refine ChainL.val (o := ?_) (v := ?_) ?_ ?_ ?_ ?_ ?_; rotate_left 2; (focus (first | (simp only [List.getElem?_toArray, List.getElem?_cons_succ, List.getElem?_cons_zero]; with_reducible rfl) | (simp only [List.getElem?_toArray, List.getElem?_cons_zero]; with_reducible rfl))); (focus (intro _ _ h; cases h)); (focus rfl); (focus (intro w' hJ; obtain ⟨y0, y1, y2, y3, y4, y5, y6, y7, y8, yl⟩ := HX _ hJ; go_simp <;> with_reducible rfl)); simp only [Act.put, List.setIfInBounds_toArray, List.set_cons_zero, List.set_cons_succ]))
  refine ChainL.store (o := ?_) (w1 := (((W0.drew.setCell ⟨w.heap.size + 1 + 1, 3, none⟩ (.int .i64 xc)).setCell ⟨w.heap.size + 1 + 1, 4, none⟩ (.int .i64 yc)).setCell ⟨w.heap.size + 1 + 1, 5, none⟩ (.int .i64 xb)).setCell ⟨w.heap.size + 1 + 1, 6, none⟩ (.int .i64 yb)) ?_ ?_ ?_ ?_ ?_
  rotate_left
  (focus (first | (simp only [List.getElem?_toArray, List.getElem?_cons_succ, List.getElem?_cons_zero]; with_reducible rfl) | (simp only [List.getElem?_toArray, List.getElem?_cons_zero]; with_reducible rfl)))
  (focus rfl)
  (focus (go_simp))
  (focus (exact (((hI.setCell (p := ⟨w.heap.size + 1 + 1, 3, none⟩) (Nat.le_refl _) _).setCell (p := ⟨w.heap.size + 1 + 1, 4, none⟩) (Nat.le_refl _) _).setCell (p := ⟨w.heap.size + 1 + 1, 5, none⟩) (Nat.le_refl _) _).setCell (p := ⟨w.heap.size + 1 + 1, 6, none⟩) (Nat.le_refl _) _))
  (try (simp only [Act.put, List.setIfInBounds_toArray, List.set_cons_zero, List.set_cons_succ]))
  refine ChainL.nil ?_
  obtain ⟨W5, hW5⟩ : ∃ W5, W5 = (((W0.drew.setCell ⟨w.heap.size + 1 + 1, 3, none⟩ (.int .i64 xc)).setCell ⟨w.heap.size + 1 + 1, 4, none⟩ (.int .i64 yc)).setCell ⟨w.heap.size + 1 + 1, 5, none⟩ (.int .i64 xb)).setCell ⟨w.heap.size + 1 + 1, 6, none⟩ (.int .i64 yb) := ⟨_, rfl⟩
  rw [← hW5]
  have HR : Hid (Blk W5 (w.heap.size + 1 + 1) 25 #[.int .i64 3, .int .i64 xd, .int .i64 yd, .int .i64 xc, .int .i64 yc, .int .i64 xb, .int .i64 yb, .int .i64 xa, .int .i64 ya]) := Lib.hid (by rw [hW5]; exact (show Blk _ _ _ _ from (((KS.set 3 (.int .i64 xc)).set 4 (.int .i64 yc)).set 5 (.int .i64 xb)).set 6 (.int .i64 yb)))
  have I5 : Below (w.heap.size + 1 + 1) W0 W5 := by rw [hW5]; exact ((((hI.setCell (p := ⟨w.heap.size + 1 + 1, 3, none⟩) (Nat.le_refl _) _).setCell (p := ⟨w.heap.size + 1 + 1, 4, none⟩) (Nat.le_refl _) _).setCell (p := ⟨w.heap.size + 1 + 1, 5, none⟩) (Nat.le_refl _) _).setCell (p := ⟨w.heap.size + 1 + 1, 6, none⟩) (Nat.le_refl _) _)
  have HQ := Lib.hid (HK2.out.low I5 (by omega))
  have HB5 := Lib.hid (HB3.out.trans (I5.mono (by omega)))
  clear s3 s4 s5 s6 t3 t4 t5 t6 sl KS hI hW5 I5 HX
  go_wp2_with (first | (refine wpList_load_row rfl 25 (.tmp 3) (by with_reducible rfl) (w.heap.size + 1 + 1) (by rfl) 25 #[.int .i64 3, .int .i64 xd, .int .i64 yd, .int .i64 xc, .int .i64 yc, .int .i64 xb, .int .i64 yb, .int .i64 xa, .int .i64 ya] (0, 0) _ (by exact HR.out) Try.underlying25 rfl bwInfo ?_) | (refine wpList_store_row rfl 25 (.tmp 2) (.tmp 26) (by with_reducible rfl) (w.heap.size + 1) #[.int .i64 3, .int .i64 xd, .int .i64 yd, .int .i64 xc, .int .i64 yc, .int .i64 xb, .int .i64 yb, .int .i64 xa, .int .i64 ya] (by rfl) (by rfl) 25 #[.int .i64 0, .int .i64 0, .int .i64 0, .int .i64 0, .int .i64 0, .int .i64 0, .int .i64 0, .int .i64 0, .int .i64 0] (by exact HQ.out) bwInfo rfl (by simp [Value.oneCell']) ?_))
  exact bodyPost_ret (results_cell_row Try.results13 _ _ (w.heap.size + 1) 25 #[.int .i64 3, .int .i64 xd, .int .i64 yd, .int .i64 xc, .int .i64 yc, .int .i64 xb, .int .i64 yb, .int .i64 xa, .int .i64 ya] (0, 0) _ (by rfl) (show Blk _ _ _ _ from blk_row HQ.out _) Try.underlying25 rfl bwInfo) rfl ⟨rfl, below_setRow HB5.out (by omega) _⟩
set_option maxRecDepth 100000 in
set_option maxHeartbeats 2000000 in
theorem rturn_2 (xa ya xb yb xc yc xd yd : Int) (w : World) : Calls Try.prog 14 #[.agg #[.int .i64 2, .int .i64 xa, .int .i64 ya, .int .i64 xb, .int .i64 yb, .int .i64 xc, .int .i64 yc, .int .i64 xd, .int .i64 yd]] w fun e w' => e = .returned (.agg #[.int .i64 2, .int .i64 xd, .int .i64 yd, .int .i64 xb, .int .i64 yb, .int .i64 0, .int .i64 0, .int .i64 xa, .int .i64 ya]) ∧ Below w.heap.size w w' := by
  have BB := bTurn 2 xa ya xd yd
  have K2 := Blk.new (w.alloc (.cells #[.int .i64 2, .int .i64 xa, .int .i64 ya, .int .i64 xb, .int .i64 yb, .int .i64 xc, .int .i64 yc, .int .i64 xd, .int .i64 yd] 25)) 25 #[.int .i64 0, .int .i64 0, .int .i64 0, .int .i64 0, .int .i64 0, .int .i64 0, .int .i64 0, .int .i64 0, .int .i64 0]
  have K3 := Blk.new ((w.alloc (.cells #[.int .i64 2, .int .i64 xa, .int .i64 ya, .int .i64 xb, .int .i64 yb, .int .i64 xc, .int .i64 yc, .int .i64 xd, .int .i64 yd] 25)).alloc (.cells #[.int .i64 0, .int .i64 0, .int .i64 0, .int .i64 0, .int .i64 0, .int .i64 0, .int .i64 0, .int .i64 0, .int .i64 0] 25)) 25 #[.int .i64 0, .int .i64 0, .int .i64 0, .int .i64 0, .int .i64 0, .int .i64 0, .int .i64 0, .int .i64 0, .int .i64 0]
  have B3 := below_a3 w (.cells #[.int .i64 2, .int .i64 xa, .int .i64 ya, .int .i64 xb, .int .i64 yb, .int .i64 xc, .int .i64 yc, .int .i64 xd, .int .i64 yd] 25) (.cells #[.int .i64 0, .int .i64 0, .int .i64 0, .int .i64 0, .int .i64 0, .int .i64 0, .int .i64 0, .int .i64 0, .int .i64 0] 25) (.cells #[.int .i64 0, .int .i64 0, .int .i64 0, .int .i64 0, .int .i64 0, .int .i64 0, .int .i64 0, .int .i64 0, .int .i64 0] 25)
  simp only [World.size_alloc] at K2 K3
  have K2 := K2.below (below_a1 _ (.cells #[.int .i64 0, .int .i64 0, .int .i64 0, .int .i64 0, .int .i64 0, .int .i64 0, .int .i64 0, .int .i64 0, .int .i64 0] 25))
  have KR := blk_row K3 #[.int .i64 2, .int .i64 xd, .int .i64 yd, .int .i64 0, .int .i64 0, .int .i64 0, .int .i64 0, .int .i64 xa, .int .i64 ya]
  have KQ : Blk _ (w.heap.size + 1) 25 #[.int .i64 0, .int .i64 0, .int .i64 0, .int .i64 0, .int .i64 0, .int .i64 0, .int .i64 0, .int .i64 0, .int .i64 0] := Blk.rowO (cs1 := #[.int .i64 2, .int .i64 xd, .int .i64 yd, .int .i64 0, .int .i64 0, .int .i64 0, .int .i64 0, .int .i64 xa, .int .i64 ya]) K2 (q := w.heap.size + 1 + 1) (by omega)
  have r3 := KR.cell 3
  have r4 := KR.cell 4
  have r5 := KR.cell 5
  have r6 := KR.cell 6
  have z3 := KR.frozen 3
  have z4 := KR.frozen 4
  have z5 := KR.frozen 5
  have z6 := KR.frozen 6
  have K1 := (Blk.new w 25 #[.int .i64 2, .int .i64 xa, .int .i64 ya, .int .i64 xb, .int .i64 yb, .int .i64 xc, .int .i64 yc, .int .i64 xd, .int .i64 yd]).below (below_a2 _ (.cells #[.int .i64 0, .int .i64 0, .int .i64 0, .int .i64 0, .int .i64 0, .int .i64 0, .int .i64 0, .int .i64 0, .int .i64 0] 25) (.cells #[.int .i64 0, .int .i64 0, .int .i64 0, .int .i64 0, .int .i64 0, .int .i64 0, .int .i64 0, .int .i64 0, .int .i64 0] 25))
  have KX : Blk _ w.heap.size 25 #[.int .i64 2, .int .i64 xa, .int .i64 ya, .int .i64 xb, .int .i64 yb, .int .i64 xc, .int .i64 yc, .int .i64 xd, .int .i64 yd] := Blk.rowO (cs1 := #[.int .i64 2, .int .i64 xd, .int .i64 yd, .int .i64 0, .int .i64 0, .int .i64 0, .int .i64 0, .int .i64 xa, .int .i64 ya]) K1 (q := w.heap.size + 1 + 1) (by omega)
  have b0 := KX.cell 0
  have b1 := KX.cell 1
  have b2 := KX.cell 2
  have b3 := KX.cell 3
  have b4 := KX.cell 4
  have b5 := KX.cell 5
  have b6 := KX.cell 6
  have b7 := KX.cell 7
  have b8 := KX.cell 8
  have HKX := Lib.hid KX
  have HK2 := Lib.hid KQ
  have HK3 := Lib.hid K3
  have HKR := Lib.hid KR
  have HB3 := Lib.hid (below_setRow B3 (g := w.heap.size + 1 + 1) (by omega) #[.int .i64 2, .int .i64 xd, .int .i64 yd, .int .i64 0, .int .i64 0, .int .i64 0, .int .i64 0, .int .i64 xa, .int .i64 ya])
  simp only [List.getElem?_toArray, List.getElem?_cons_succ, List.getElem?_cons_zero] at r3 r4 r5 r6 b0 b1 b2 b3 b4 b5 b6 b7 b8
  clear K1 K2 K3 KR KQ B3 KX
  go_enter Try.func14, Try.ntmps14
  go_wp2_with (first | (refine wpList_build_toC rfl 25 #[(0, .tmp 5), (1, .tmp 7), (4, .tmp 9)] (by with_reducible rfl) [(0, .int .i64 2), (1, .agg #[.int .i64 xd, .int .i64 yd]), (4, .agg #[.int .i64 xa, .int .i64 ya])] (by rfl) #[.int .i64 2, .int .i64 xd, .int .i64 yd, .int .i64 0, .int .i64 0, .int .i64 0, .int .i64 0, .int .i64 xa, .int .i64 ya] BB ?_) | (refine wpList_store_row rfl 25 (.tmp 3) (.tmp 10) (by with_reducible rfl) (w.heap.size + 1 + 1) #[.int .i64 2, .int .i64 xd, .int .i64 yd, .int .i64 0, .int .i64 0, .int .i64 0, .int .i64 0, .int .i64 xa, .int .i64 ya] (by rfl) (by rfl) 25 #[.int .i64 0, .int .i64 0, .int .i64 0, .int .i64 0, .int .i64 0, .int .i64 0, .int .i64 0, .int .i64 0, .int .i64 0] (by exact HK3.out) bwInfo rfl (by simp [Value.oneCell']) ?_) | (refine wpList_load_row rfl 25 (.tmp 3) (by with_reducible rfl) (w.heap.size + 1 + 1) (by rfl) 25 #[.int .i64 2, .int .i64 xd, .int .i64 yd, .int .i64 xb, .int .i64 yb, .int .i64 0, .int .i64 0, .int .i64 xa, .int .i64 ya] (0, 0) _ (by exact (show Blk _ _ _ _ from (HKR.out.set 3 (.int .i64 xb)).set 4 (.int .i64 yb))) Try.underlying25 rfl bwInfo ?_) | (refine wpList_store_row rfl 25 (.tmp 2) (.tmp 26) (by with_reducible rfl) (w.heap.size + 1) #[.int .i64 2, .int .i64 xd, .int .i64 yd, .int .i64 xb, .int .i64 yb, .int .i64 0, .int .i64 0, .int .i64 xa, .int .i64 ya] (by rfl) (by rfl) 25 #[.int .i64 0, .int .i64 0, .int .i64 0, .int .i64 0, .int .i64 0, .int .i64 0, .int .i64 0, .int .i64 0, .int .i64 0] (by exact ((HK2.out.other (q := ⟨w.heap.size + 1 + 1, 3, none⟩) (by simp) (.int .i64 xb)).other (q := ⟨w.heap.size + 1 + 1, 4, none⟩) (by simp) (.int .i64 yb))) bwInfo rfl (by simp [Value.oneCell']) ?_))
  exact bodyPost_ret (results_cell_row Try.results14 _ _ (w.heap.size + 1) 25 #[.int .i64 2, .int .i64 xd, .int .i64 yd, .int .i64 xb, .int .i64 yb, .int .i64 0, .int .i64 0, .int .i64 xa, .int .i64 ya] (0, 0) _ (by rfl) (show Blk _ _ _ _ from blk_row ((HK2.out.other (q := ⟨w.heap.size + 1 + 1, 3, none⟩) (by simp) (.int .i64 xb)).other (q := ⟨w.heap.size + 1 + 1, 4, none⟩) (by simp) (.int .i64 yb)) _) Try.underlying25 rfl bwInfo) rfl ⟨rfl, below_setRow ((HB3.out.setCell (p := ⟨w.heap.size + 1 + 1, 3, none⟩) (by simp; omega) (.int .i64 xb)).setCell (p := ⟨w.heap.size + 1 + 1, 4, none⟩) (by simp; omega) (.int .i64 yb)) (by omega) _⟩
set_option maxRecDepth 100000 in
set_option maxHeartbeats 2000000 in
theorem rturn_n (k : Int) (xa ya xb yb xc yc xd yd : Int) (w : World) (h2 : (k == 2) = false) (h3 : (k == 3) = false) : Calls Try.prog 14 #[.agg #[.int .i64 k, .int .i64 xa, .int .i64 ya, .int .i64 xb, .int .i64 yb, .int .i64 xc, .int .i64 yc, .int .i64 xd, .int .i64 yd]] w fun e w' => e = .returned (.agg #[.int .i64 k, .int .i64 xd, .int .i64 yd, .int .i64 0, .int .i64 0, .int .i64 0, .int .i64 0, .int .i64 xa, .int .i64 ya]) ∧ Below w.heap.size w w' := by
  have BB := bTurn k xa ya xd yd
  have K2 := Blk.new (w.alloc (.cells #[.int .i64 k, .int .i64 xa, .int .i64 ya, .int .i64 xb, .int .i64 yb, .int .i64 xc, .int .i64 yc, .int .i64 xd, .int .i64 yd] 25)) 25 #[.int .i64 0, .int .i64 0, .int .i64 0, .int .i64 0, .int .i64 0, .int .i64 0, .int .i64 0, .int .i64 0, .int .i64 0]
  have K3 := Blk.new ((w.alloc (.cells #[.int .i64 k, .int .i64 xa, .int .i64 ya, .int .i64 xb, .int .i64 yb, .int .i64 xc, .int .i64 yc, .int .i64 xd, .int .i64 yd] 25)).alloc (.cells #[.int .i64 0, .int .i64 0, .int .i64 0, .int .i64 0, .int .i64 0, .int .i64 0, .int .i64 0, .int .i64 0, .int .i64 0] 25)) 25 #[.int .i64 0, .int .i64 0, .int .i64 0, .int .i64 0, .int .i64 0, .int .i64 0, .int .i64 0, .int .i64 0, .int .i64 0]
  have B3 := below_a3 w (.cells #[.int .i64 k, .int .i64 xa, .int .i64 ya, .int .i64 xb, .int .i64 yb, .int .i64 xc, .int .i64 yc, .int .i64 xd, .int .i64 yd] 25) (.cells #[.int .i64 0, .int .i64 0, .int .i64 0, .int .i64 0, .int .i64 0, .int .i64 0, .int .i64 0, .int .i64 0, .int .i64 0] 25) (.cells #[.int .i64 0, .int .i64 0, .int .i64 0, .int .i64 0, .int .i64 0, .int .i64 0, .int .i64 0, .int .i64 0, .int .i64 0] 25)
  simp only [World.size_alloc] at K2 K3
  have K2 := K2.below (below_a1 _ (.cells #[.int .i64 0, .int .i64 0, .int .i64 0, .int .i64 0, .int .i64 0, .int .i64 0, .int .i64 0, .int .i64 0, .int .i64 0] 25))
  have KR := blk_row K3 #[.int .i64 k, .int .i64 xd, .int .i64 yd, .int .i64 0, .int .i64 0, .int .i64 0, .int .i64 0, .int .i64 xa, .int .i64 ya]
  have KQ : Blk _ (w.heap.size + 1) 25 #[.int .i64 0, .int .i64 0, .int .i64 0, .int .i64 0, .int .i64 0, .int .i64 0, .int .i64 0, .int .i64 0, .int .i64 0] := Blk.rowO (cs1 := #[.int .i64 k, .int .i64 xd, .int .i64 yd, .int .i64 0, .int .i64 0, .int .i64 0, .int .i64 0, .int .i64 xa, .int .i64 ya]) K2 (q := w.heap.size + 1 + 1) (by omega)
  have r3 := KR.cell 3
  have r4 := KR.cell 4
  have r5 := KR.cell 5
  have r6 := KR.cell 6
  have z3 := KR.frozen 3
  have z4 := KR.frozen 4
  have z5 := KR.frozen 5
  have z6 := KR.frozen 6
  have K1 := (Blk.new w 25 #[.int .i64 k, .int .i64 xa, .int .i64 ya, .int .i64 xb, .int .i64 yb, .int .i64 xc, .int .i64 yc, .int .i64 xd, .int .i64 yd]).below (below_a2 _ (.cells #[.int .i64 0, .int .i64 0, .int .i64 0, .int .i64 0, .int .i64 0, .int .i64 0, .int .i64 0, .int .i64 0, .int .i64 0] 25) (.cells #[.int .i64 0, .int .i64 0, .int .i64 0, .int .i64 0, .int .i64 0, .int .i64 0, .int .i64 0, .int .i64 0, .int .i64 0] 25))
  have KX : Blk _ w.heap.size 25 #[.int .i64 k, .int .i64 xa, .int .i64 ya, .int .i64 xb, .int .i64 yb, .int .i64 xc, .int .i64 yc, .int .i64 xd, .int .i64 yd] := Blk.rowO (cs1 := #[.int .i64 k, .int .i64 xd, .int .i64 yd, .int .i64 0, .int .i64 0, .int .i64 0, .int .i64 0, .int .i64 xa, .int .i64 ya]) K1 (q := w.heap.size + 1 + 1) (by omega)
  have b0 := KX.cell 0
  have b1 := KX.cell 1
  have b2 := KX.cell 2
  have b3 := KX.cell 3
  have b4 := KX.cell 4
  have b5 := KX.cell 5
  have b6 := KX.cell 6
  have b7 := KX.cell 7
  have b8 := KX.cell 8
  have HKX := Lib.hid KX
  have HK2 := Lib.hid KQ
  have HK3 := Lib.hid K3
  have HKR := Lib.hid KR
  have HB3 := Lib.hid (below_setRow B3 (g := w.heap.size + 1 + 1) (by omega) #[.int .i64 k, .int .i64 xd, .int .i64 yd, .int .i64 0, .int .i64 0, .int .i64 0, .int .i64 0, .int .i64 xa, .int .i64 ya])
  simp only [List.getElem?_toArray, List.getElem?_cons_succ, List.getElem?_cons_zero] at r3 r4 r5 r6 b0 b1 b2 b3 b4 b5 b6 b7 b8
  clear K1 K2 K3 KR KQ B3 KX
  go_enter Try.func14, Try.ntmps14
  go_wp2_with (first | (refine wpList_build_toC rfl 25 #[(0, .tmp 5), (1, .tmp 7), (4, .tmp 9)] (by with_reducible rfl) [(0, .int .i64 k), (1, .agg #[.int .i64 xd, .int .i64 yd]), (4, .agg #[.int .i64 xa, .int .i64 ya])] (by rfl) #[.int .i64 k, .int .i64 xd, .int .i64 yd, .int .i64 0, .int .i64 0, .int .i64 0, .int .i64 0, .int .i64 xa, .int .i64 ya] BB ?_) | (refine wpList_store_row rfl 25 (.tmp 3) (.tmp 10) (by with_reducible rfl) (w.heap.size + 1 + 1) #[.int .i64 k, .int .i64 xd, .int .i64 yd, .int .i64 0, .int .i64 0, .int .i64 0, .int .i64 0, .int .i64 xa, .int .i64 ya] (by rfl) (by rfl) 25 #[.int .i64 0, .int .i64 0, .int .i64 0, .int .i64 0, .int .i64 0, .int .i64 0, .int .i64 0, .int .i64 0, .int .i64 0] (by exact HK3.out) bwInfo rfl (by simp [Value.oneCell']) ?_) | (refine wpList_load_row rfl 25 (.tmp 3) (by with_reducible rfl) (w.heap.size + 1 + 1) (by rfl) 25 #[.int .i64 k, .int .i64 xd, .int .i64 yd, .int .i64 0, .int .i64 0, .int .i64 0, .int .i64 0, .int .i64 xa, .int .i64 ya] (0, 0) _ (by exact HKR.out) Try.underlying25 rfl bwInfo ?_) | (refine wpList_store_row rfl 25 (.tmp 2) (.tmp 26) (by with_reducible rfl) (w.heap.size + 1) #[.int .i64 k, .int .i64 xd, .int .i64 yd, .int .i64 0, .int .i64 0, .int .i64 0, .int .i64 0, .int .i64 xa, .int .i64 ya] (by rfl) (by rfl) 25 #[.int .i64 0, .int .i64 0, .int .i64 0, .int .i64 0, .int .i64 0, .int .i64 0, .int .i64 0, .int .i64 0, .int .i64 0] (by exact HK2.out) bwInfo rfl (by simp [Value.oneCell']) ?_))
  exact bodyPost_ret (results_cell_row Try.results14 _ _ (w.heap.size + 1) 25 #[.int .i64 k, .int .i64 xd, .int .i64 yd, .int .i64 0, .int .i64 0, .int .i64 0, .int .i64 0, .int .i64 xa, .int .i64 ya] (0, 0) _ (by rfl) (show Blk _ _ _ _ from blk_row HK2.out _) Try.underlying25 rfl bwInfo) rfl ⟨rfl, below_setRow HB3.out (by omega) _⟩
set_option maxRecDepth 100000 in
set_option maxHeartbeats 2000000 in
theorem rturn_3 (xa ya xb yb xc yc xd yd : Int) (w : World) : Calls Try.prog 14 #[.agg #[.int .i64 3, .int .i64 xa, .int .i64 ya, .int .i64 xb, .int .i64 yb, .int .i64 xc, .int .i64 yc, .int .i64 xd, .int .i64 yd]] w fun e w' => e = .returned (.agg #[.int .i64 3, .int .i64 xd, .int .i64 yd, .int .i64 xc, .int .i64 yc, .int .i64 xb, .int .i64 yb, .int .i64 xa, .int .i64 ya]) ∧ Below w.heap.size w w' := by
  have BB := bTurn 3 xa ya xd yd
  have K2 := Blk.new (w.alloc (.cells #[.int .i64 3, .int .i64 xa, .int .i64 ya, .int .i64 xb, .int .i64 yb, .int .i64 xc, .int .i64 yc, .int .i64 xd, .int .i64 yd] 25)) 25 #[.int .i64 0, .int .i64 0, .int .i64 0, .int .i64 0, .int .i64 0, .int .i64 0, .int .i64 0, .int .i64 0, .int .i64 0]
  have K3 := Blk.new ((w.alloc (.cells #[.int .i64 3, .int .i64 xa, .int .i64 ya, .int .i64 xb, .int .i64 yb, .int .i64 xc, .int .i64 yc, .int .i64 xd, .int .i64 yd] 25)).alloc (.cells #[.int .i64 0, .int .i64 0, .int .i64 0, .int .i64 0, .int .i64 0, .int .i64 0, .int .i64 0, .int .i64 0, .int .i64 0] 25)) 25 #[.int .i64 0, .int .i64 0, .int .i64 0, .int .i64 0, .int .i64 0, .int .i64 0, .int .i64 0, .int .i64 0, .int .i64 0]
  have B3 := below_a3 w (.cells #[.int .i64 3, .int .i64 xa, .int .i64 ya, .int .i64 xb, .int .i64 yb, .int .i64 xc, .int .i64 yc, .int .i64 xd, .int .i64 yd] 25) (.cells #[.int .i64 0, .int .i64 0, .int .i64 0, .int .i64 0, .int .i64 0, .int .i64 0, .int .i64 0, .int .i64 0, .int .i64 0] 25) (.cells #[.int .i64 0, .int .i64 0, .int .i64 0, .int .i64 0, .int .i64 0, .int .i64 0, .int .i64 0, .int .i64 0, .int .i64 0] 25)
  simp only [World.size_alloc] at K2 K3
  have K2 := K2.below (below_a1 _ (.cells #[.int .i64 0, .int .i64 0, .int .i64 0, .int .i64 0, .int .i64 0, .int .i64 0, .int .i64 0, .int .i64 0, .int .i64 0] 25))
  have KR := blk_row K3 #[.int .i64 3, .int .i64 xd, .int .i64 yd, .int .i64 0, .int .i64 0, .int .i64 0, .int .i64 0, .int .i64 xa, .int .i64 ya]
  have KQ : Blk _ (w.heap.size + 1) 25 #[.int .i64 0, .int .i64 0, .int .i64 0, .int .i64 0, .int .i64 0, .int .i64 0, .int .i64 0, .int .i64 0, .int .i64 0] := Blk.rowO (cs1 := #[.int .i64 3, .int .i64 xd, .int .i64 yd, .int .i64 0, .int .i64 0, .int .i64 0, .int .i64 0, .int .i64 xa, .int .i64 ya]) K2 (q := w.heap.size + 1 + 1) (by omega)
  have r3 := KR.cell 3
  have r4 := KR.cell 4
  have r5 := KR.cell 5
  have r6 := KR.cell 6
  have z3 := KR.frozen 3
  have z4 := KR.frozen 4
  have z5 := KR.frozen 5
  have z6 := KR.frozen 6
  have K1 := (Blk.new w 25 #[.int .i64 3, .int .i64 xa, .int .i64 ya, .int .i64 xb, .int .i64 yb, .int .i64 xc, .int .i64 yc, .int .i64 xd, .int .i64 yd]).below (below_a2 _ (.cells #[.int .i64 0, .int .i64 0, .int .i64 0, .int .i64 0, .int .i64 0, .int .i64 0, .int .i64 0, .int .i64 0, .int .i64 0] 25) (.cells #[.int .i64 0, .int .i64 0, .int .i64 0, .int .i64 0, .int .i64 0, .int .i64 0, .int .i64 0, .int .i64 0, .int .i64 0] 25))
  have KX : Blk _ w.heap.size 25 #[.int .i64 3, .int .i64 xa, .int .i64 ya, .int .i64 xb, .int .i64 yb, .int .i64 xc, .int .i64 yc, .int .i64 xd, .int .i64 yd] := Blk.rowO (cs1 := #[.int .i64 3, .int .i64 xd, .int .i64 yd, .int .i64 0, .int .i64 0, .int .i64 0, .int .i64 0, .int .i64 xa, .int .i64 ya]) K1 (q := w.heap.size + 1 + 1) (by omega)
  have b0 := KX.cell 0
  have b1 := KX.cell 1
  have b2 := KX.cell 2
  have b3 := KX.cell 3
  have b4 := KX.cell 4
  have b5 := KX.cell 5
  have b6 := KX.cell 6
  have b7 := KX.cell 7
  have b8 := KX.cell 8
  have HKX := Lib.hid KX
  have HK2 := Lib.hid KQ
  have HK3 := Lib.hid K3
  have HKR := Lib.hid KR
  have HB3 := Lib.hid (below_setRow B3 (g := w.heap.size + 1 + 1) (by omega) #[.int .i64 3, .int .i64 xd, .int .i64 yd, .int .i64 0, .int .i64 0, .int .i64 0, .int .i64 0, .int .i64 xa, .int .i64 ya])
  simp only [List.getElem?_toArray, List.getElem?_cons_succ, List.getElem?_cons_zero] at r3 r4 r5 r6 b0 b1 b2 b3 b4 b5 b6 b7 b8
  obtain ⟨W0, hW0⟩ : ∃ W0, W0 = (((w.alloc (.cells #[.int .i64 3, .int .i64 xa, .int .i64 ya, .int .i64 xb, .int .i64 yb, .int .i64 xc, .int .i64 yc, .int .i64 xd, .int .i64 yd] 25)).alloc (.cells #[.int .i64 0, .int .i64 0, .int .i64 0, .int .i64 0, .int .i64 0, .int .i64 0, .int .i64 0, .int .i64 0, .int .i64 0] 25)).alloc (.cells #[.int .i64 0, .int .i64 0, .int .i64 0, .int .i64 0, .int .i64 0, .int .i64 0, .int .i64 0, .int .i64 0, .int .i64 0] 25)).setRow (w.heap.size + 1 + 1) #[.int .i64 3, .int .i64 xd, .int .i64 yd, .int .i64 0, .int .i64 0, .int .i64 0, .int .i64 0, .int .i64 xa, .int .i64 ya] := ⟨_, rfl⟩
  have HW0 := Lib.hid hW0
  rw [← hW0] at HK2 HKR HB3 HKX
  have HX : ∀ V, Below (w.heap.size + 1 + 1) W0 V → V.cell? ⟨w.heap.size, 0, none⟩ = some (.int .i64 3) ∧ V.cell? ⟨w.heap.size, 1, none⟩ = some (.int .i64 xa) ∧ V.cell? ⟨w.heap.size, 2, none⟩ = some (.int .i64 ya) ∧ V.cell? ⟨w.heap.size, 3, none⟩ = some (.int .i64 xb) ∧ V.cell? ⟨w.heap.size, 4, none⟩ = some (.int .i64 yb) ∧ V.cell? ⟨w.heap.size, 5, none⟩ = some (.int .i64 xc) ∧ V.cell? ⟨w.heap.size, 6, none⟩ = some (.int .i64 yc) ∧ V.cell? ⟨w.heap.size, 7, none⟩ = some (.int .i64 xd) ∧ V.cell? ⟨w.heap.size, 8, none⟩ = some (.int .i64 yd) ∧ w.heap.size < V.heap.size := fun V hV => ⟨(HKX.out.low hV (by omega)).cell 0, (HKX.out.low hV (by omega)).cell 1, (HKX.out.low hV (by omega)).cell 2, (HKX.out.low hV (by omega)).cell 3, (HKX.out.low hV (by omega)).cell 4, (HKX.out.low hV (by omega)).cell 5, (HKX.out.low hV (by omega)).cell 6, (HKX.out.low hV (by omega)).cell 7, (HKX.out.low hV (by omega)).cell 8, (HKX.out.low hV (by omega)).lt⟩
  clear K1 K2 K3 KR KQ B3 KX hW0
  go_enter Try.func14, Try.ntmps14
  go_wp2_with (first | (refine wpList_build_toC rfl 25 #[(0, .tmp 5), (1, .tmp 7), (4, .tmp 9)] (by with_reducible rfl) [(0, .int .i64 3), (1, .agg #[.int .i64 xd, .int .i64 yd]), (4, .agg #[.int .i64 xa, .int .i64 ya])] (by rfl) #[.int .i64 3, .int .i64 xd, .int .i64 yd, .int .i64 0, .int .i64 0, .int .i64 0, .int .i64 0, .int .i64 xa, .int .i64 ya] BB ?_) | (refine wpList_store_row rfl 25 (.tmp 3) (.tmp 10) (by with_reducible rfl) (w.heap.size + 1 + 1) #[.int .i64 3, .int .i64 xd, .int .i64 yd, .int .i64 0, .int .i64 0, .int .i64 0, .int .i64 0, .int .i64 xa, .int .i64 ya] (by rfl) (by rfl) 25 #[.int .i64 0, .int .i64 0, .int .i64 0, .int .i64 0, .int .i64 0, .int .i64 0, .int .i64 0, .int .i64 0, .int .i64 0] (by exact HK3.out) bwInfo rfl (by simp [Value.oneCell']) ?_))
  rw [← HW0.out]
  clear b0 b1 b2 b3 b4 b5 b6 b7 b8 r3 r4 r5 r6 z3 z4 z5 z6
  have hI : Below (w.heap.size + 1 + 1) W0 W0.drew := (Below.refl _ _).drew
  have KS := HKR.out.low ((Below.refl _ _).drew : Below W0.heap.size W0 W0.drew) HKR.out.lt
  have s3 := HKR.out.cell 3
  have s4 := HKR.out.cell 4
  have s5 := HKR.out.cell 5
  have s6 := HKR.out.cell 6
  have t3 := HKR.out.frozen 3
  have t4 := HKR.out.frozen 4
  have t5 := HKR.out.frozen 5
  have t6 := HKR.out.frozen 6
  have sl := HKR.out.lt
  simp only [List.getElem?_toArray, List.getElem?_cons_succ, List.getElem?_cons_zero] at s3 s4 s5 s6
  refine wp_region_chain (fun V => Below (w.heap.size + 1 + 1) W0 V) [(0, false), (1, false), (2, false), (3, false), (4, false), (5, true), (6, false), (7, true)] (by kernel_rfl) (by kernel_rfl) hI ?_
  repeat (first
    | (refine ChainL.skip (o := ?_) ?_ ?_ ?_; rotate_left; (focus (first | (simp only [List.getElem?_toArray, List.getElem?_cons_succ, List.getElem?_cons_zero]; with_reducible rfl) | (simp only [List.getElem?_toArray, List.getElem?_cons_zero]; with_reducible rfl))); (focus rfl); simp only [Act.put, List.setIfInBounds_toArray, List.set_cons_zero, List.set_cons_succ])
    | (refine ChainL.val (o := ?_) (v := ?_) ?_ ?_ ?_ ?_ ?_; rotate_left 2; (focus (first | (simp only [List.getElem?_toArray, List.getElem?_cons_succ, List.getElem?_cons_zero]; with_reducible rfl) | (simp only [List.getElem?_toArray, List.getElem?_cons_zero]; with_reducible rfl))); (focus (intro _ _ h; cases h)); (focus rfl); (focus (intro w' hJ; obtain ⟨y0, y1, y2, y3, y4, y5, y6, y7, y8, yl⟩ := HX _ hJ; go_simp <;> with_reducible rfl)); simp only [Act.put, List.setIfInBounds_toArray, List.set_cons_zero, List.set_cons_succ]))
  refine ChainL.store (o := ?_) (w1 := (W0.drew.setCell ⟨w.heap.size + 1 + 1, 3, none⟩ (.int .i64 xc)).setCell ⟨w.heap.size + 1 + 1, 4, none⟩ (.int .i64 yc)) ?_ ?_ ?_ ?_ ?_
  rotate_left
  (focus (first | (simp only [List.getElem?_toArray, List.getElem?_cons_succ, List.getElem?_cons_zero]; with_reducible rfl) | (simp only [List.getElem?_toArray, List.getElem?_cons_zero]; with_reducible rfl)))
  (focus rfl)
  (focus (go_simp))
  (focus (exact (hI.setCell (p := ⟨w.heap.size + 1 + 1, 3, none⟩) (Nat.le_refl _) _).setCell (p := ⟨w.heap.size + 1 + 1, 4, none⟩) (Nat.le_refl _) _))
  (try (simp only [Act.put, List.setIfInBounds_toArray, List.set_cons_zero, List.set_cons_succ]))
  repeat (first
    | (refine ChainL.skip (o := ?_) ?_ ?_ ?_; rotate_left; (focus (first | (simp only [List.getElem?_toArray, List.getElem?_cons_succ, List.getElem?_cons_zero]; with_reducible rfl) | (simp only [List.getElem?_toArray, List.getElem?_cons_zero]; with_reducible rfl))); (focus rfl); simp only [Act.put, List.setIfInBounds_toArray, List.set_cons_zero, List.set_cons_succ])
    | (refine ChainL.val (o := ?_) (v := ?_) ?_ ?_ ?_ ?_ ?_; rotate_left 2; (focus (first | (simp only [List.getElem?_toArray, List.getElem?_cons_succ, List.getElem?_cons_zero]; with_reducible rfl) | (simp only [List.getElem?_toArray, List.getElem?_cons_zero]; with_reducible rfl))); (focus (intro _ _ h; cases h)); (focus rfl); (focus (intro w' hJ; obtain ⟨y0, y1, y2, y3, y4, y5, y6, y7, y8, yl⟩ := HX _ hJ; go_simp <;> with_reducible rfl)); simp only [Act.put, List.setIfInBounds_toArray, List.set_cons_zero, List.set_cons_succ]))
  refine ChainL.store (o := ?_) (w1 := (((W0.drew.setCell ⟨w.heap.size + 1 + 1, 3, none⟩ (.int .i64 xc)).setCell ⟨w.heap.size + 1 + 1, 4, none⟩ (.int .i64 yc)).setCell ⟨w.heap.size + 1 + 1, 5, none⟩ (.int .i64 xb)).setCell ⟨w.heap.size + 1 + 1, 6, none⟩ (.int .i64 yb)) ?_ ?_ ?_ ?_ ?_
  rotate_left
  (focus (first | (simp only [List.getElem?_toArray, List.getElem?_cons_succ, List.getElem?_cons_zero]; with_reducible rfl) | (simp only [List.getElem?_toArray, List.getElem?_cons_zero]; with_reducible rfl)))
  (focus rfl)
  (focus (go_simp))
  (focus (exact (((hI.setCell (p := ⟨w.heap.size + 1 + 1, 3, none⟩) (Nat.le_refl _) _).setCell (p := ⟨w.heap.size + 1 + 1, 4, none⟩) (Nat.le_refl _) _).setCell (p := ⟨w.heap.size + 1 + 1, 5, none⟩) (Nat.le_refl _) _).setCell (p := ⟨w.heap.size + 1 + 1, 6, none⟩) (Nat.le_refl _) _))
  (try (simp only [Act.put, List.setIfInBounds_toArray, List.set_cons_zero, List.set_cons_succ]))
  refine ChainL.nil ?_
  obtain ⟨W5, hW5⟩ : ∃ W5, W5 = (((W0.drew.setCell ⟨w.heap.size + 1 + 1, 3, none⟩ (.int .i64 xc)).setCell ⟨w.heap.size + 1 + 1, 4, none⟩ (.int .i64 yc)).setCell ⟨w.heap.size + 1 + 1, 5, none⟩ (.int .i64 xb)).setCell ⟨w.heap.size + 1 + 1, 6, none⟩ (.int .i64 yb) := ⟨_, rfl⟩
  rw [← hW5]
  have HR : Hid (Blk W5 (w.heap.size + 1 + 1) 25 #[.int .i64 3, .int .i64 xd, .int .i64 yd, .int .i64 xc, .int .i64 yc, .int .i64 xb, .int .i64 yb, .int .i64 xa, .int .i64 ya]) := Lib.hid (by rw [hW5]; exact (show Blk _ _ _ _ from (((KS.set 3 (.int .i64 xc)).set 4 (.int .i64 yc)).set 5 (.int .i64 xb)).set 6 (.int .i64 yb)))
  have I5 : Below (w.heap.size + 1 + 1) W0 W5 := by rw [hW5]; exact ((((hI.setCell (p := ⟨w.heap.size + 1 + 1, 3, none⟩) (Nat.le_refl _) _).setCell (p := ⟨w.heap.size + 1 + 1, 4, none⟩) (Nat.le_refl _) _).setCell (p := ⟨w.heap.size + 1 + 1, 5, none⟩) (Nat.le_refl _) _).setCell (p := ⟨w.heap.size + 1 + 1, 6, none⟩) (Nat.le_refl _) _)
  have HQ := Lib.hid (HK2.out.low I5 (by omega))
  have HB5 := Lib.hid (HB3.out.trans (I5.mono (by omega)))
  clear s3 s4 s5 s6 t3 t4 t5 t6 sl KS hI hW5 I5 HX
  go_wp2_with (first | (refine wpList_load_row rfl 25 (.tmp 3) (by with_reducible rfl) (w.heap.size + 1 + 1) (by rfl) 25 #[.int .i64 3, .int .i64 xd, .int .i64 yd, .int .i64 xc, .int .i64 yc, .int .i64 xb, .int .i64 yb, .int .i64 xa, .int .i64 ya] (0, 0) _ (by exact HR.out) Try.underlying25 rfl bwInfo ?_) | (refine wpList_store_row rfl 25 (.tmp 2) (.tmp 26) (by with_reducible rfl) (w.heap.size + 1) #[.int .i64 3, .int .i64 xd, .int .i64 yd, .int .i64 xc, .int .i64 yc, .int .i64 xb, .int .i64 yb, .int .i64 xa, .int .i64 ya] (by rfl) (by rfl) 25 #[.int .i64 0, .int .i64 0, .int .i64 0, .int .i64 0, .int .i64 0, .int .i64 0, .int .i64 0, .int .i64 0, .int .i64 0] (by exact HQ.out) bwInfo rfl (by simp [Value.oneCell']) ?_))
  exact bodyPost_ret (results_cell_row Try.results14 _ _ (w.heap.size + 1) 25 #[.int .i64 3, .int .i64 xd, .int .i64 yd, .int .i64 xc, .int .i64 yc, .int .i64 xb, .int .i64 yb, .int .i64 xa, .int .i64 ya] (0, 0) _ (by rfl) (show Blk _ _ _ _ from blk_row HQ.out _) Try.underlying25 rfl bwInfo) rfl ⟨rfl, below_setRow HB5.out (by omega) _⟩
end Go.Proofs.Ytngfillgndhfbaa
