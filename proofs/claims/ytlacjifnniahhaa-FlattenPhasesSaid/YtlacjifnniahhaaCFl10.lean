/- Part 11 of the proof: CvY, CvT, CvL, CvS, RangeD, FlL. -/
import Derived.RangeFuncKeeps
import Derived.RangeFuncCalls
import Derived.RangeFuncLeaves
import Derived.RangeFuncFrom
import Derived.RangeFuncNested
import Derived.RangeFuncBound
import Derived.Shelf.Abstract
import Derived.Shelf.RegionOpen
import Derived.WalkKit
import Derived.OwnWalkIn
import Derived.TacticsInMore
import Derived.LoopNIn
import Derived.LoopIn
import Derived.RangeFuncWrites
import Derived.Test.YtlacjifnniahhaaCFl9

namespace Go.Proofs.Ytlacjifnniahhaa
open Go Go.RowKit
set_option linter.unusedVariables false
set_option linter.unusedSimpArgs false


theorem dtInfo : (Try.prog.info? 27).map (·.size) = some 2 := by kernel_rfl
theorem bwInfo : (Try.prog.info? 70).map (·.size) = some 9 := by kernel_rfl
def dpx (L : List Dt) (i n : Int) (m : Nat) : Int := near (dp (w4g (wts (n - i) i m)) (gx L) (m + 1)) (al (w4g (wts (n - i) i m)) (m + 1))
def dpy (L : List Dt) (i n : Int) (m : Nat) : Int := near (dp (w4g (wts (n - i) i m)) (gy L) (m + 1)) (al (w4g (wts (n - i) i m)) (m + 1))
set_option maxRecDepth 100000 in
set_option maxHeartbeats 2000000 in
theorem at_any (m : Nat) (B : Nat) (A : Option Addr) (c : Nat) (L : List Dt) (i n : Int) (w : World) (hB : B ≤ w.heap.size) (hL : Lists w B A (L.flatMap dtL)) (hlen : L.length = m + 1) (hm : m ≤ 3) (hf : L.any farD = false) (i0 : 0 ≤ i) (hin : i ≤ n) (hn : n ≤ 512) (h1 : 1 ≤ al (w4g (wts (n - i) i m)) (m + 1)) :
    Calls Try.prog 92 #[.slice A (m + 1 : Nat) c, .int .i64 i, .int .i64 n] w fun e w' => e = .returned (.agg #[.int .i64 (dpx L i n m), .int .i64 (dpy L i n m)]) ∧ Below w.heap.size w w' := by
  have CW := fun W => weights_any m i n W hm i0 hin hn
  have hv := wts_le (k := n - i) (i := i) (by omega) (by omega) i0 (by omega) m hm
  have HL := Lib.hid hL
  have CX := Lib.hid (fun (W : World) (hb : Below w.heap.size w W) => weighed_x (wts (n - i) i m) B A c L W (Nat.le_trans hB hb.size) (HL.out.below (hb.mono hB)) (by omega) hv hf (by rw [hlen]; exact h1))
  have CY := Lib.hid (fun (W : World) (hb : Below w.heap.size w W) => weighed_y (wts (n - i) i m) B A c L W (Nat.le_trans hB hb.size) (HL.out.below (hb.mono hB)) (by omega) hv hf (by rw [hlen]; exact h1))
  rw [hlen] at CX CY
  unfold dpx dpy
  generalize near (dp (w4g (wts (n - i) i m)) (gx L) (m + 1)) (al (w4g (wts (n - i) i m)) (m + 1)) = rx at *
  generalize near (dp (w4g (wts (n - i) i m)) (gy L) (m + 1)) (al (w4g (wts (n - i) i m)) (m + 1)) = ry at *
  generalize wts (n - i) i m = v at *
  have KZ := Blk.new w 27 #[.int .i64 0, .int .i64 0]
  have B0 := below_a1 w (.cells #[.int .i64 0, .int .i64 0] 27)
  have em : wrap64 (((m + 1 : Nat) : Int) - 1) = (m : Int) := by simp [wrap64]; omega
  have HEM := Lib.hid em
  clear hL hf h1 hv hlen em hB
  obtain ⟨v0, v1, v2, v3⟩ := v
  simp only [w4L] at CW CX CY
  have em := HEM.out
  go_enter Try.func92, Try.ntmps92
  go_wp2_with (first | (go_at_call 100; ((with_reducible refine (CW _).mono ?_); rintro e w1 ⟨rfl, b1⟩; have KZ := KZ.below b1; have B1 := B0.trans (b1.mono B0.size); have KA := Blk.new w1 110 #[.int .i64 0, .int .i64 0, .int .i64 0, .int .i64 0])) | (refine wpList_store_row rfl 110 (.tmp 7) (.tmp 13) (by with_reducible rfl) w1.heap.size #[.int .i64 v0, .int .i64 v1, .int .i64 v2, .int .i64 v3] (by rfl) (by rfl) 110 #[.int .i64 0, .int .i64 0, .int .i64 0, .int .i64 0] (by exact KA) wInfo rfl (by simp [Value.oneCell']) ?_))
  have KA2 := blk_row KA #[.int .i64 v0, .int .i64 v1, .int .i64 v2, .int .i64 v3]
  have BS := below_setRow (below_a1 w1 (.cells #[.int .i64 0, .int .i64 0, .int .i64 0, .int .i64 0] 110)) (Nat.le_refl _) #[.int .i64 v0, .int .i64 v1, .int .i64 v2, .int .i64 v3]
  obtain ⟨W2, hW2⟩ : ∃ W2, W2 = (w1.alloc (.cells #[.int .i64 0, .int .i64 0, .int .i64 0, .int .i64 0] 110)).setRow w1.heap.size #[.int .i64 v0, .int .i64 v1, .int .i64 v2, .int .i64 v3] := ⟨_, rfl⟩
  rw [← hW2] at KA2 BS
  rw [← hW2]
  have KZ2 := KZ.below BS
  have B2 := B1.trans (BS.mono B1.size)
  have HLD := Lib.hid (fun (V : World) (hV : Below W2.heap.size W2 V) => load_blk (P := Try.prog) (ty := 110) (KA2.below hV) Try.underlying110 rfl wInfo)
  have HW2 := Lib.hid hW2
  have HKZ := Lib.hid KZ2
  have HB2 := Lib.hid B2
  clear hW2 KA KA2 KZ KZ2 BS B1 B2 b1 B0
  have hI : Below W2.heap.size W2 W2.drew := (Below.refl _ _).drew
  refine wp_region_chain_last (fun V => Below W2.heap.size W2 V) [(0, false), (1, false), (3, false), (4, false), (2, true), (5, true), (6, false)] _ _ (by rfl) (by rfl) (by kernel_rfl) (by kernel_rfl) hI ?_
  repeat (first
    | (refine ChainL.skip (o := ?_) ?_ ?_ ?_; rotate_left; (focus (first | (simp only [List.getElem?_toArray, List.getElem?_cons_succ, List.getElem?_cons_zero]; with_reducible rfl) | (simp only [List.getElem?_toArray, List.getElem?_cons_zero]; with_reducible rfl))); (focus rfl); simp only [Act.put, List.setIfInBounds_toArray, List.set_cons_zero, List.set_cons_succ])
    | (refine ChainL.val (o := ?_) (v := ?_) ?_ ?_ ?_ ?_ ?_; rotate_left 2; (focus (first | (simp only [List.getElem?_toArray, List.getElem?_cons_succ, List.getElem?_cons_zero]; with_reducible rfl) | (simp only [List.getElem?_toArray, List.getElem?_cons_zero]; with_reducible rfl))); (focus (intro _ _ h; cases h)); (focus rfl); (focus (intro w' hJ; have LD := HLD.out _ hJ; first | (have H := fun ρ o x => @exec_load _ ρ o _ _ x _ _ LD; refine H _ _ ?_ ?_ ?_; rotate_left; (focus rfl); (focus rfl)) | (go_simp <;> with_reducible rfl))); simp only [Act.put, List.setIfInBounds_toArray, List.set_cons_zero, List.set_cons_succ]))
  refine ChainL.call (o := ?_) (f := ?_) (args := ?_) ?_ ?_ ?_ ?_
  rotate_left 3
  (focus (first | (simp only [List.getElem?_toArray, List.getElem?_cons_succ, List.getElem?_cons_zero]; with_reducible rfl) | (simp only [List.getElem?_toArray, List.getElem?_cons_zero]; with_reducible rfl)))
  (focus rfl)
  (focus (go_simp; (constructor <;> with_reducible rfl)))
  with_reducible refine (CX.out _ (HB2.out.trans (hI.mono HB2.out.size))).mono ?_
  rintro e w5 ⟨rfl, b5⟩
  have I5 := hI.trans (b5.mono hI.size)
  refine ⟨_, rfl, I5, ?_⟩
  simp only [Act.put, List.setIfInBounds_toArray, List.set_cons_zero, List.set_cons_succ]
  refine ChainL.call (o := ?_) (f := ?_) (args := ?_) ?_ ?_ ?_ ?_
  rotate_left 3
  (focus (first | (simp only [List.getElem?_toArray, List.getElem?_cons_succ, List.getElem?_cons_zero]; with_reducible rfl) | (simp only [List.getElem?_toArray, List.getElem?_cons_zero]; with_reducible rfl)))
  (focus rfl)
  (focus (go_simp; (constructor <;> with_reducible rfl)))
  with_reducible refine (CY.out _ (HB2.out.trans (I5.mono HB2.out.size))).mono ?_
  rintro e w6 ⟨rfl, b6⟩
  have I6 := I5.trans (b6.mono I5.size)
  refine ⟨_, rfl, I6, ?_⟩
  simp only [Act.put, List.setIfInBounds_toArray, List.set_cons_zero, List.set_cons_succ]
  repeat (first
    | (refine ChainL.skip (o := ?_) ?_ ?_ ?_; rotate_left; (focus (first | (simp only [List.getElem?_toArray, List.getElem?_cons_succ, List.getElem?_cons_zero]; with_reducible rfl) | (simp only [List.getElem?_toArray, List.getElem?_cons_zero]; with_reducible rfl))); (focus rfl); simp only [Act.put, List.setIfInBounds_toArray, List.set_cons_zero, List.set_cons_succ])
    | (refine ChainL.val (o := ?_) (v := ?_) ?_ ?_ ?_ ?_ ?_; rotate_left 2; (focus (first | (simp only [List.getElem?_toArray, List.getElem?_cons_succ, List.getElem?_cons_zero]; with_reducible rfl) | (simp only [List.getElem?_toArray, List.getElem?_cons_zero]; with_reducible rfl))); (focus (intro _ _ h; cases h)); (focus rfl); (focus (intro w' hJ; skip; go_simp <;> with_reducible rfl)); simp only [Act.put, List.setIfInBounds_toArray, List.set_cons_zero, List.set_cons_succ]))
  refine ChainL.nil ?_
  refine wp_store_row 27 _ _ rfl w.heap.size #[.int .i64 rx, .int .i64 ry] rfl rfl 27 #[.int .i64 0, .int .i64 0] (HKZ.out.below I6) dtInfo rfl (by simp [Value.oneCell']) ?_
  simp only [Act.put]
  go_wp2
  exact bodyPost_ret (results_cell_row Try.results92 _ _ w.heap.size 27 #[.int .i64 rx, .int .i64 ry] (0, 0) _ (by rfl) (show Blk _ _ _ _ from blk_row (HKZ.out.below I6) _) Try.underlying27 rfl dtInfo) rfl ⟨rfl, below_setRow (HB2.out.trans (I6.mono HB2.out.size)) (Nat.le_refl _) _⟩

/-- One number of a place at i of n. -/
def at1 (kd k i n a b c d : Int) : Int := if kd = 2 then near (k * k * a + 2 * i * k * b + i * i * d) (n * n) else if kd = 3 then near (k * k * k * a + 3 * i * k * k * b + 3 * i * i * k * c + i * i * i * d) (n * n * n) else near (k * a + i * d) n
def atW (c : Bw) (i n : Int) : Dt := (at1 c.k (n - i) i n c.xa c.xb c.xc c.xd, at1 c.k (n - i) i n c.ya c.yb c.yc c.yd)
theorem al1 (k i : Int) : al (w4g (wts k i 1)) 2 = k + i := by simp [al, w4g, wts, stp]
theorem al2 (k i : Int) : al (w4g (wts k i 2)) 3 = (k + i) * (k + i) := by simp [al, w4g, wts, stp]; grind
theorem al3 (k i : Int) : al (w4g (wts k i 3)) 4 = (k + i) * (k + i) * (k + i) := by simp [al, w4g, wts, stp]; grind
theorem dp1 (k i : Int) (g : Nat → Int) : dp (w4g (wts k i 1)) g 2 = k * g 0 + i * g 1 := by simp [dp, w4g, wts, stp]
theorem dp2 (k i : Int) (g : Nat → Int) : dp (w4g (wts k i 2)) g 3 = k * k * g 0 + 2 * i * k * g 1 + i * i * g 2 := by simp [dp, w4g, wts, stp]; grind
theorem dp3 (k i : Int) (g : Nat → Int) : dp (w4g (wts k i 3)) g 4 = k * k * k * g 0 + 3 * i * k * k * g 1 + 3 * i * i * k * g 2 + i * i * i * g 3 := by simp [dp, w4g, wts, stp]; grind
theorem plc_at {c : Bw} {m : Nat} (h : (plc c).length = m + 1) (i n : Int) : (dpx (plc c) i n m, dpy (plc c) i n m) = atW c i n := by
  obtain ⟨k, xa, ya, xb, yb, xc, yc, xd, yd⟩ := c
  unfold atW at1 dpx dpy
  rcases kinds k with rfl | rfl | rfl | ⟨h1, h2, h3⟩
  · obtain rfl : m = 1 := by simp [plc] at h; omega
    simp [plc]
    rw [al1, dp1, dp1, Int.sub_add_cancel]
    exact ⟨rfl, rfl⟩
  · obtain rfl : m = 2 := by simp [plc] at h; omega
    simp [plc]
    rw [al2, dp2, dp2, Int.sub_add_cancel]
    exact ⟨rfl, rfl⟩
  · obtain rfl : m = 3 := by simp [plc] at h; omega
    simp [plc]
    rw [al3, dp3, dp3, Int.sub_add_cancel]
    exact ⟨rfl, rfl⟩
  · rw [plc_0 (c := ⟨k, xa, ya, xb, yb, xc, yc, xd, yd⟩) h1 h2 h3] at h
    simp at h
theorem al_pos {m : Nat} (hm : 1 ≤ m ∧ m ≤ 3) {i n : Int} (h : 1 ≤ n) : 1 ≤ al (w4g (wts (n - i) i m)) (m + 1) := by
  have s := Int.mul_le_mul (a := 1) (b := 1) (c := n) (d := n) h h (by omega) (by omega)
  have s3 := Int.mul_le_mul (a := 1) (b := 1) (c := n * n) (d := n) (by omega) h (by omega) (by omega)
  match m, hm with
  | 1, _ => rw [al1]; omega
  | 2, _ => rw [al2, Int.sub_add_cancel]; omega
  | 3, _ => rw [al3, Int.sub_add_cancel]; omega
/-- How many places a bow has, less one. -/
theorem plc_len {c : Bw} (h : mayW c = true) : ∃ m, (plc c).length = m + 1 ∧ 1 ≤ m ∧ m ≤ 3 := by
  obtain ⟨k, xa, ya, xb, yb, xc, yc, xd, yd⟩ := c
  rcases kinds k with rfl | rfl | rfl | ⟨h1, h2, h3⟩
  · exact ⟨1, rfl, by omega, by omega⟩
  · exact ⟨2, rfl, by omega, by omega⟩
  · exact ⟨3, rfl, by omega, by omega⟩
  · exfalso; unfold mayW at h; rw [plc_0 (c := ⟨k, xa, ya, xb, yb, xc, yc, xd, yd⟩) h1 h2 h3] at h; cases h
/-- The places of a bow that may be. -/
theorem cplaces_any (c : Bw) (h : mayW c = true) (w : World) : Calls Try.prog 86 #[bwV c] w fun e w' => ∃ b, e = .returned (.slice (some ⟨b, 0, none⟩) (plc c).length (plc c).length) ∧ Lists w' w'.heap.size (some ⟨b, 0, none⟩) ((plc c).flatMap dtL) ∧ Below w.heap.size w w' := by
  obtain ⟨k, xa, ya, xb, yb, xc, yc, xd, yd⟩ := c
  unfold bwV
  dsimp only
  rcases kinds k with rfl | rfl | rfl | ⟨h1, h2, h3⟩
  · refine (places_1 xa ya xb yb xc yc xd yd w).mono ?_
    rintro e w1 ⟨b, rfl, K, hb, b1⟩
    exact ⟨b, rfl, (lists_blkD K).more K.lt, b1⟩
  · refine (places_2 xa ya xb yb xc yc xd yd w).mono ?_
    rintro e w1 ⟨b, rfl, K, hb, b1⟩
    exact ⟨b, rfl, (lists_blkD K).more K.lt, b1⟩
  · refine (places_3 xa ya xb yb xc yc xd yd w).mono ?_
    rintro e w1 ⟨b, rfl, K, hb, b1⟩
    exact ⟨b, rfl, (lists_blkD K).more K.lt, b1⟩
  · exfalso; unfold mayW at h; rw [plc_0 (c := ⟨k, xa, ya, xb, yb, xc, yc, xd, yd⟩) h1 h2 h3] at h; cases h
theorem any_of_may {c : Bw} (h : mayW c = true) : (plc c).any farD = false := by
  unfold mayW at h
  rw [Bool.and_eq_true] at h
  simpa using h.2

/-- At i of n: refused, or a place. -/
def atOk (c : Bw) (i n : Int) : Bool := mayW c && decide (1 ≤ n) && decide (n ≤ 512) && decide (0 ≤ i) && decide (i ≤ n)
end Go.Proofs.Ytlacjifnniahhaa

namespace Go.Proofs.Ytlacjifnniahhaa
open Go Go.RowKit
set_option linter.unusedVariables false
set_option linter.unusedSimpArgs false


theorem bTurn (k xa ya xd yd : Int) : Try.prog.built 70 [(0, .int .i64 k), (1, .agg #[.int .i64 xd, .int .i64 yd]), (4, .agg #[.int .i64 xa, .int .i64 ya])] = some #[.int .i64 k, .int .i64 xd, .int .i64 yd, .int .i64 0, .int .i64 0, .int .i64 0, .int .i64 0, .int .i64 xa, .int .i64 ya] := by kernel_rfl
theorem wpList_build_toC {P : Program} {ops : Array Oper} {rest : List Oper} {o : Oper} {a : Act} {w : World} {Q : Exit → Act → World → Prop} (hg : o.guard = none) (t : TypeId) (parts : Array (Nat × Operand)) (ho : o.op = .build t parts)
    (l : List (Nat × Value)) (hl : (parts.map fun (i, x) => (i, a.eval x)).toList = l) (v : Array Value) (hf : P.built t l = some v) (h : wpList P ops Q rest (a.put o.dst (.agg v)) w) : wpList P ops Q (o :: rest) a w := by
  subst hl
  exact wpList_build hg t parts ho (by rw [hf]; rfl) (by rw [hf]; exact h)
theorem Blk.rowO {w : World} {p q : Nat} {T : TypeId} {cs cs1 : Array Value} (h : Blk w p T cs) (hq : p ≠ q) : Blk (w.setRow q cs1) p T cs := (setRow_other w q p cs1 (fun e => hq (by first | exact e | exact e.symm))).trans h
theorem Blk.low {w w1 : World} {p B : Nat} {T : TypeId} {cs : Array Value} (h : Blk w p T cs) (k : Below B w w1) (hp : p < B) : Blk w1 p T cs := (k.block p hp).trans h
def trn (c : Bw) : Bw := if c.k = 2 then ⟨c.k, c.xd, c.yd, c.xb, c.yb, 0, 0, c.xa, c.ya⟩ else if c.k = 3 then ⟨c.k, c.xd, c.yd, c.xc, c.yc, c.xb, c.yb, c.xa, c.ya⟩ else ⟨c.k, c.xd, c.yd, 0, 0, 0, 0, c.xa, c.ya⟩
end Go.Proofs.Ytlacjifnniahhaa

namespace Go.Proofs.Ytlacjifnniahhaa
open Go Go.RowKit
set_option linter.unusedVariables false
set_option linter.unusedSimpArgs false


theorem eqD_run (a b a' b' : Int) (w : World) :
    (binOp .eql 27 (.agg #[.int .i64 a, .int .i64 b]) (.agg #[.int .i64 a', .int .i64 b'])).run Try.prog w = .ok (.bool (a == a' && b == b')) w := by
  have hS : Try.prog.underlying 27 = some (.struct (Try.prog.fieldsOf 27)) := by kernel_rfl
  have hp : Try.prog.stoodInHeld 27 = false := by kernel_rfl
  have u3 := Try.underlying3
  have a3 := Try.isAgg3
  have z3 := Try.sizeOf3
  rw [run_eql_struct, show (10000 : Nat) = 9999 + 1 from rfl, run_equalIn_agg w 9999 27 _ _ hS hp]
  simp only [Program.fieldsOf, Try.underlying27]
  go_simp
  by_cases h1 : a = a' <;> by_cases h2 : b = b' <;> simp [h1, h2]
theorem eqD_guard (a b a' b' : Int) (x y : Operand) (w : World) :
    (eqGuard .eql 27 x y (.agg #[.int .i64 a, .int .i64 b]) (.agg #[.int .i64 a', .int .i64 b'])).run Try.prog w = .ok () w :=
  run_eqGuard_agg w .eql 27 x y _ _ (by kernel_rfl)
theorem neD_run (a b a' b' : Int) (w : World) :
    (binOp .neq 27 (.agg #[.int .i64 a, .int .i64 b]) (.agg #[.int .i64 a', .int .i64 b'])).run Try.prog w = .ok (.bool (!(a == a' && b == b'))) w := by
  have hS : Try.prog.underlying 27 = some (.struct (Try.prog.fieldsOf 27)) := by kernel_rfl
  have hp : Try.prog.stoodInHeld 27 = false := by kernel_rfl
  have u3 := Try.underlying3
  have a3 := Try.isAgg3
  have z3 := Try.sizeOf3
  rw [run_neq_struct, show (10000 : Nat) = 9999 + 1 from rfl, run_equalIn_agg w 9999 27 _ _ hS hp]
  simp only [Program.fieldsOf, Try.underlying27]
  go_simp
  by_cases h1 : a = a' <;> by_cases h2 : b = b' <;> simp [h1, h2]
theorem neD_guard (a b a' b' : Int) (x y : Operand) (w : World) :
    (eqGuard .neq 27 x y (.agg #[.int .i64 a, .int .i64 b]) (.agg #[.int .i64 a', .int .i64 b'])).run Try.prog w = .ok () w :=
  run_eqGuard_agg w .neq 27 x y _ _ (by kernel_rfl)
set_option maxRecDepth 100000 in
theorem eqBw_in (n : Nat) (k xa ya xb yb xc yc xd yd : Int) (w : World) : (Op.equalIn (n + 1 + 1 + 1) 70 (.agg #[.int .i64 k, .int .i64 xa, .int .i64 ya, .int .i64 xb, .int .i64 yb, .int .i64 xc, .int .i64 yc, .int .i64 xd, .int .i64 yd]) (.agg #[.int .i64 k, .int .i64 xa, .int .i64 ya, .int .i64 xb, .int .i64 yb, .int .i64 xc, .int .i64 yc, .int .i64 xd, .int .i64 yd])).run Try.prog w = .ok true w := by
  have hS : Try.prog.underlying 70 = some (.struct (Try.prog.fieldsOf 70)) := by kernel_rfl
  have hp : Try.prog.stoodInHeld 70 = false := by kernel_rfl
  have hS2 : Try.prog.underlying 27 = some (.struct (Try.prog.fieldsOf 27)) := by kernel_rfl
  have hp2 : Try.prog.stoodInHeld 27 = false := by kernel_rfl
  have u3 := Try.underlying3
  have a3 := Try.isAgg3
  have z3 := Try.sizeOf3
  have a4 := Try.isAgg27
  have z4 := Try.sizeOf27
  rw [run_equalIn_agg w (n + 1 + 1) 70 _ _ hS hp]
  simp only [Program.fieldsOf, Try.underlying70]
  clear hS hp hS2 hp2
  go_simp
set_option maxRecDepth 100000 in
theorem neBw_run (k xa ya xb yb xc yc xd yd : Int) (w : World) :
    (binOp .neq 70 (.agg #[.int .i64 k, .int .i64 xa, .int .i64 ya, .int .i64 xb, .int .i64 yb, .int .i64 xc, .int .i64 yc, .int .i64 xd, .int .i64 yd]) (.agg #[.int .i64 k, .int .i64 xa, .int .i64 ya, .int .i64 xb, .int .i64 yb, .int .i64 xc, .int .i64 yc, .int .i64 xd, .int .i64 yd])).run Try.prog w = .ok (.bool false) w := by
  rw [run_neq_struct, show (10000 : Nat) = 9997 + 1 + 1 + 1 from rfl, eqBw_in 9997]
  rfl
theorem neBw_guard (l m : Array Value) (x y : Operand) (w : World) :
    (eqGuard .neq 70 x y (.agg l) (.agg m)).run Try.prog w = .ok () w :=
  run_eqGuard_agg w .neq 70 x y _ _ (by kernel_rfl)
theorem eqfD {P : Program} (w : World) (d : Nat) (t : TypeId) (g : Fn) (a b : Array Value) {ta tb : Array TypeId} {c : Bool} (h : P.underlying t = some (.func ta tb c)) : (Op.equalIn (d + 1) t (.func g a b) .nilFunc).run P w = .ok false w := by
  simp [Op.equalIn, run_underlying h]
theorem neqf1D {P : Program} (w : World) (t : TypeId) (g : Fn) (a b : Array Value) {ta tb : Array TypeId} {c : Bool} (h : P.underlying t = some (.func ta tb c)) : (binOp .neq t (.func g a b) .nilFunc).run P w = .ok (.bool true) w := by
  simp only [binOp]
  simp [Op.equal, Op.maxDepth, eqfD w 9999 t g a b h]
theorem eqlf1D {P : Program} (w : World) (t : TypeId) (g : Fn) (a b : Array Value) {ta tb : Array TypeId} {c : Bool} (h : P.underlying t = some (.func ta tb c)) : (binOp .eql t (.func g a b) .nilFunc).run P w = .ok (.bool false) w := by
  simp only [binOp]
  simp [Op.equal, Op.maxDepth, eqfD w 9999 t g a b h]
set_option maxRecDepth 100000 in
theorem dots_any (c : Bw) (w : World) : Calls Try.prog 69 #[bwV c] w fun e w' => e = .returned (.func (.func 91) #[] #[.pointer (some ⟨w.heap.size, 0, none⟩)]) ∧ Blk w' w.heap.size 70 (bwL c).toArray ∧ Below w.heap.size w w' := by
  have hmf : ∀ (fn : Fn) (first cap : Array Value) (w : World), (Instr.makeFunc fn first cap).run Try.prog w = .ok (.func fn first cap) w := fun _ _ _ _ => rfl
  unfold bwV
  go_enter Try.func69, Try.ntmps69
  go_wp2
  go_ret
  exact ⟨rfl, Blk.new w 70 _, below_a1 _ _⟩
theorem bCorner : Try.prog.built 70 [(0, .int .i64 2), (2, .agg #[.int .i64 64, .int .i64 0]), (4, .agg #[.int .i64 64, .int .i64 64])] = some #[.int .i64 2, .int .i64 0, .int .i64 0, .int .i64 64, .int .i64 0, .int .i64 0, .int .i64 0, .int .i64 64, .int .i64 64] := by kernel_rfl
theorem fldB1 (k xa ya xb yb xc yc xd yd : Int) (w : World) : (Instr.field 70 (.agg #[.int .i64 k, .int .i64 xa, .int .i64 ya, .int .i64 xb, .int .i64 yb, .int .i64 xc, .int .i64 yc, .int .i64 xd, .int .i64 yd]) 1).run Try.prog w = .ok (.agg #[.int .i64 xa, .int .i64 ya]) w := by kernel_rfl
end Go.Proofs.Ytlacjifnniahhaa

namespace Go.Proofs.Ytlacjifnniahhaa
open Go Go.RowKit Go.Shelf
set_option linter.unusedVariables false
set_option linter.unusedSimpArgs false

/-- The places that a bow has, of any bow; of one that may be, where they lie. -/
theorem cplacesD (c : Bw) (w : World) : Calls Try.prog 86 #[bwV c] w fun e w' => ∃ A n, e = .returned (.slice A n n) ∧ (mayW c = true → n = (plc c).length ∧ ∃ b, A = some ⟨b, 0, none⟩ ∧ w.heap.size ≤ b ∧ Blk w' b 27 ((plc c).flatMap dtL).toArray) ∧ Below w.heap.size w w' := by
  obtain ⟨k, xa, ya, xb, yb, xc, yc, xd, yd⟩ := c
  unfold bwV
  dsimp only
  rcases kinds k with rfl | rfl | rfl | ⟨h1, h2, h3⟩
  · refine (places_1 xa ya xb yb xc yc xd yd w).mono ?_
    rintro e w1 ⟨b, rfl, K, hb, b1⟩
    exact ⟨_, _, rfl, fun _ => ⟨rfl, b, rfl, hb, K⟩, b1⟩
  · refine (places_2 xa ya xb yb xc yc xd yd w).mono ?_
    rintro e w1 ⟨b, rfl, K, hb, b1⟩
    exact ⟨_, _, rfl, fun _ => ⟨rfl, b, rfl, hb, K⟩, b1⟩
  · refine (places_3 xa ya xb yb xc yc xd yd w).mono ?_
    rintro e w1 ⟨b, rfl, K, hb, b1⟩
    exact ⟨_, _, rfl, fun _ => ⟨rfl, b, rfl, hb, K⟩, b1⟩
  · refine (places_0 k xa ya xb yb xc yc xd yd w h1 h2 h3).mono ?_
    rintro e w1 ⟨rfl, b1⟩
    exact ⟨none, 0, rfl, fun h => (by exfalso; unfold mayW at h; rw [plc_0 (c := ⟨k, xa, ya, xb, yb, xc, yc, xd, yd⟩) h1 h2 h3] at h; cases h), b1⟩
/-- A place of a bow that may be, from its places as they lie. -/
theorem catD (c : Bw) (h : mayW c = true) (b : Nat) (i n : Int) (n1 : 1 ≤ n) (n2 : n ≤ 512) (i0 : 0 ≤ i) (i1 : i ≤ n) (w : World) (K : Blk w b 27 ((plc c).flatMap dtL).toArray) :
    Calls Try.prog 92 #[.slice (some ⟨b, 0, none⟩) (plc c).length (plc c).length, .int .i64 i, .int .i64 n] w fun e w' => e = .returned (.agg #[.int .i64 (atW c i n).1, .int .i64 (atW c i n).2]) ∧ Below w.heap.size w w' := by
  obtain ⟨m, hl, m1, m3⟩ := plc_len h
  have A := at_any m w.heap.size (some ⟨b, 0, none⟩) (plc c).length (plc c) i n w (Nat.le_refl _) ((lists_blkD K).more K.lt) hl m3 (any_of_may h) i0 i1 n2 (al_pos ⟨m1, m3⟩ n1)
  have hxy := plc_at hl i n
  have ex : dpx (plc c) i n m = (atW c i n).1 := congrArg Prod.fst hxy
  have ey : dpy (plc c) i n m = (atW c i n).2 := congrArg Prod.snd hxy
  rw [ex, ey] at A
  rw [hl] at A ⊢
  exact A
/-- What a body may do: but for one block all rows stay. -/
def KpD (nb : Nat) (V V' : World) : Prop := Below nb V V' ∧ ∀ (b : Nat) (o : Obj), b ≠ nb → V.heap[b]? = some o → o.isCells = true → V'.heap[b]? = some o
theorem KpD.trans {nb : Nat} {X Y Z : World} (h : KpD nb X Y) (k : KpD nb Y Z) : KpD nb X Z := ⟨h.1.trans k.1, fun b o hb ho hc => k.2 b o hb (h.2 b o hb ho hc) hc⟩
theorem KpD.blk {nb b : Nat} {T : TypeId} {cs : Array Value} {V V' : World} (h : KpD nb V V') (K : Blk V b T cs) (hb : b ≠ nb) : Blk V' b T cs := h.2 b _ hb K rfl

theorem kpD_b {nb : Nat} {w : World} (hn : nb ≤ w.heap.size) (W : World) (l : Nat) (o o' : Obj) (hl : w.heap.size ≤ l) (h : W.heap[l]? = some o) (h1 : o.isCells = false) (h2 : o.isWalk = false) : KpD nb W (W.putObj l o') :=
  ⟨belowK_b hn W l o o' hl h h1 h2, fun b p hb hp hc => (World.putObj_heap_other (fun e => by subst e; rw [h] at hp; cases hp; rw [h1] at hc; cases hc)).trans hp⟩
theorem blk_grownD {X Y : World} {row : Option Nat} {B p : Nat} {T : TypeId} {cs : Array Value} (h : Blk X p T cs) (hp : p < B) (hg : X.grownBy Y row) (hr : ∀ r, row = some r → B ≤ r ∧ ∃ o : Obj, X.heap[r]? = some o ∧ o.isCells = false) : Blk Y p T cs :=
  (hg.block p h.lt (fun e => by have := (hr p e.symm).1; omega)).trans h
theorem blk_keptD {X Y : World} {row : Option Nat} {p : Nat} {T : TypeId} {cs : Array Value} (h : Blk X p T cs) (hg : X.grownBy Y row) (hr : ∀ r, row = some r → ∃ o : Obj, X.heap[r]? = some o ∧ o.isCells = false) : Blk Y p T cs :=
  (hg.block p h.lt (fun e => by obtain ⟨o, ho, hc⟩ := hr p e.symm; rw [show X.heap[p]? = _ from h] at ho; cases ho; cases hc)).trans h
attribute [local go_sem] Oper.semAt_some
set_option maxRecDepth 100000 in
set_option maxHeartbeats 1000000 in
theorem dots_stops (Bx nb N : Nat) (c : Bw) (w0 : World) (hK : Blk w0 Bx 70 (bwL c).toArray) (hz : nb < w0.heap.size) (hN : pcW c = N) :
    SeqC Fence.wide 2 Try.prog 91 #[.pointer (some ⟨Bx, 0, none⟩)] (fun x : Dt => #[.agg #[.int .i64 x.1, .int .i64 x.2]]) (fun pre x _ => pre.length < N ∧ x = atW c ((pre.length : Int) + 1) N) (KpD nb) (fun xs => xs.length = N) (fun _ => True) w0 := by
  intro l J Jx W hW hJ hJx hY h0
  have hn : N ≤ 256 := by
    have := pcs_in (need c)
    unfold pcW at hN
    split at hN <;> omega
  have hmay : 1 ≤ N → mayW c = true := fun h => by
    unfold pcW at hN
    split at hN
    · assumption
    · omega
  have hsw := hW.size
  have CP := fun V => cpcs_any c V
  have CD := fun V => cplacesD c V
  have HA := Lib.hid (fun (h : mayW c = true) (b : Nat) (k : Nat) (hk : k < N) (V : World) (K : Blk V b 27 ((plc c).flatMap dtL).toArray) => catD c h b ((k : Int) + 1) N (by omega) (by omega) (by omega) (by omega) V K)
  rw [hN] at CP
  have KW := hK.below hW
  have kl := KW.lt
  have HKW := Lib.hid KW
  have HM := Lib.hid hmay
  clear hmay hN hK
  have k0 := KW.cell 0
  have k1 := KW.cell 1
  have k2 := KW.cell 2
  have k3 := KW.cell 3
  have k4 := KW.cell 4
  have k5 := KW.cell 5
  have k6 := KW.cell 6
  have k7 := KW.cell 7
  have k8 := KW.cell 8
  simp only [bwL, List.getElem?_toArray, List.getElem?_cons_succ, List.getElem?_cons_zero] at k0 k1 k2 k3 k4 k5 k6 k7 k8
  simp only [bwV] at CP CD
  clear KW
  refine callsIn_of_wp Try.func91 rfl trivial ?_ rfl
  simp only [Try.ntmps91, List.size_toArray, List.length_cons, List.length_nil, Nat.reduceAdd, Nat.reduceSub, Array.replicate_succ, Array.replicate_zero, List.push_toArray, List.append_toArray, List.nil_append, List.cons_append]
  gi_wp2_with (refine ⟨trivial, ?_⟩; first
    | (gi_at_call 39; ((refine (callsIn_wide.2 (CP _)).mono ?_); rintro e w3 ⟨rfl, b3⟩; have K3 := HKW.out.below b3; have kl := K3.lt; have k0 := K3.cell 0; have k1 := K3.cell 1; have k2 := K3.cell 2; have k3 := K3.cell 3; have k4 := K3.cell 4; have k5 := K3.cell 5; have k6 := K3.cell 6; have k7 := K3.cell 7; have k8 := K3.cell 8; simp only [bwL, List.getElem?_toArray, List.getElem?_cons_succ, List.getElem?_cons_zero] at k0 k1 k2 k3 k4 k5 k6 k7 k8; clear K3))
    | (gi_at_call 86; ((refine (callsIn_wide.2 (CD _)).mono ?_); rintro e w4 ⟨A, m, rfl, hpl, b4⟩; have b34 := b3.trans (b4.mono b3.size); have hs34 := b3.size; have h1 := hJ _ _ _ h0 b34; clear k0 k1 k2 k3 k4 k5 k6 k7 k8 kl)))
  have HP := Lib.hid hpl
  have hs4 := b34.size
  have hs5 := b4.size
  clear hpl b3 b4
  gi_loopw [11] (fun i wr => ∃ pre : List Dt, pre.length ≤ N ∧ i = .int .i64 pre.length ∧ J pre wr ∧ KpD nb w4 wr) (fun i _ => N - (intOf i).toNat)
  case atStart => exact ⟨[], Nat.zero_le _, rfl, h1, Below.refl _ _, fun _ _ _ h _ => h⟩
  case round =>
    obtain ⟨pre, hk, rfl, hJk, hb⟩ := hrel
    obtain ⟨k, hpk⟩ : ∃ k, pre.length = k := ⟨_, rfl⟩
    have HPK := Lib.hid hpk
    rw [hpk] at hk
    clear h0 h1
    by_cases hlt : k < N
    · have d1 : pre.length < N := by rw [hpk]; exact hlt
      have hm := HM.out (by omega)
      obtain ⟨rfl, b, rfl, hbl, K4⟩ := HP.out hm
      have CA := HA.out hm b k hlt wr (hb.blk K4 (by omega))
      rw [← hpk] at CA
      have hkn : k < 256 := by omega
      have e1 : IntKind.i64.wrap ((pre.length : Int) + 1) = (pre.length : Int) + 1 := IntWalk.i64_in _ (by omega)
      clear hpk
      gi_wp2_with (refine ⟨trivial, ?_⟩; first
        | (gi_at_call 92; ((refine (callsIn_wide.2 CA).mono ?_); rintro e w5 ⟨rfl, b5⟩; obtain ⟨fn, tmps, assign, body, hy, hRd⟩ := hY pre (atW c ((pre.length : Int) + 1) N) w5 (hJ _ _ _ hJk b5) ⟨by rw [HPK.out]; exact hlt, rfl⟩)))
      refine hRd.mono ?_
      rintro e V (⟨rfl, hJ3, lv⟩ | ⟨rfl, hJx3⟩)
      · gi_wp2
        go_roundw
        case rel => exact ⟨_, by rw [List.length_append, HPK.out]; simp; omega, by rw [List.length_append]; go_num, hJ3, (hb.trans ⟨b5.mono (by have := hb.1.size; omega), fun b o hb ho hc => (b5.block b (Array.getElem?_eq_some_iff.1 ho).1).trans ho⟩).trans lv⟩
        case measure => simp [intOf]; omega
      · gi_wp2
        refine bodyPost_ret (results_none rfl _ _ _) rfl ?_
        exact ⟨⟨_, rfl⟩, .inr ⟨_, trivial, hJx3⟩⟩
    · have d1 : ¬ pre.length < N := by rw [hpk]; exact hlt
      gi_wp2
      go_end0
      exact ⟨⟨_, rfl⟩, .inl ⟨pre, by rw [HPK.out]; omega, hJk⟩⟩
end Go.Proofs.Ytlacjifnniahhaa

namespace Go.Proofs.Ytlacjifnniahhaa
open Go Go.RowKit
set_option linter.unusedVariables false
variable {F : Fence} {n : Nat} {P : Program}
/-- An iterator's word, to those whose conditions bear records of loops that lie beyond the place where it begins. -/
def SeqD {α : Type} (F : Fence) (n : Nat) (P : Program) (g : Nat) (lb : Array Value) (encs : α → Array Value) (C : List α → α → World → Prop) (Kp : World → World → Prop)
    (S Sp : List α → Prop) (w : World) : Prop :=
  ∀ (l : Nat) (J Jx : List α → World → Prop) (W : World), Below w.heap.size w W → w.heap.size + 2 ≤ W.heap.size → OwnFrom W.heap.size J → OwnFrom W.heap.size Jx →
    (∀ pre x V, J pre V → C pre x V → YieldAt F (n - 1) P l (encs x) V fun e V' =>
      (e = .returned (.bool true) ∧ J (pre ++ [x]) V' ∧ Kp V V') ∨ (e = .returned (.bool false) ∧ Jx (pre ++ [x]) V' ∧ KeepsFrom (w.heap.size + 2) V V')) →
    J [] W →
    CallsIn F n P g (#[.func (.yield l) #[] #[]] ++ lb) W fun e V => (∃ v, e = .returned v) ∧ ((∃ xs, S xs ∧ J xs V) ∨ (∃ pre, Sp pre ∧ Jx pre V))
theorem SeqC.toD {α : Type} {g : Nat} {lb : Array Value} {encs : α → Array Value} {C : List α → α → World → Prop} {Kp : World → World → Prop} {S Sp : List α → Prop} {w : World} (h : SeqC F n P g lb encs C Kp S Sp w) : SeqD F n P g lb encs C Kp S Sp w :=
  fun l J Jx W hW _ hJ hJx hY h0 => h l J Jx W hW (stays_own hJ) (stays_own hJx) (fun pre x V hj hc => by
    obtain ⟨fn, tm, as1, bd, hy, hR⟩ := hY pre x V hj hc
    refine ⟨fn, tm, as1, bd, hy, hR.mono ?_⟩
    rintro e V' (h1 | h1)
    · exact .inl h1
    · exact .inr ⟨h1.1, h1.2.1⟩) h0
/-- How a body may end; records of loops that lay ahead of this one may have turned. -/
def outRg {α : Type} (B : Nat) (Kp : World → World → Prop) (I : List α → World → Prop) (Ix : Code → List α → World → Prop) (xs : List α) (W : World) : Exit → Act → World → Prop
  | .normal, _, V => KeepsFrom B W V ∧ Kp W V ∧ I xs V
  | .ret, _, V => KeepsFrom B W V ∧ Ix .ret xs V
  | .exit id, _, V => KeepsFrom B W V ∧ Ix (.exit id) xs V
  | _, _, _ => False
theorem Books.from {B : Nat} {r : Loop} {W V : World} (h : Books B r W) (hk : KeepsFrom B W V) : Books B r V :=
  ⟨hk.same _ _ (Nat.le_refl _) h.marks rfl, hk.same _ _ (Nat.le_succ _) h.record rfl⟩
theorem Books.grown {B : Nat} {r : Loop} {W V : World} {k : Nat} (h : Books B r W) {row : Option Nat} (hk : B + 1 < k) (hg : W.grownBy V row) (hr : ∀ q, row = some q → k ≤ q) : Books B r V :=
  ⟨(hg.block _ (by have := h.lt; omega) (fun e => by have := hr _ e.symm; omega)).trans h.marks, (hg.block _ h.lt (fun e => by have := hr _ e.symm; omega)).trans h.record⟩

theorem wpIn_rangeDA {α : Type} {g : Operand} {ps : Array Tmp} {assign body : Code} {Q : Exit → Act → World → Prop} {a : Act} {w : World}
    (hro : F.round = none) (h1 : 1 ≤ n) {gf : Nat} {lb : Array Value} (hg : a.eval g = .func (.func gf) #[] lb) (hFg : F.fn gf) (eg : ∀ args w, (callFunc gf args).run P w = .ok (.enter gf args) w)
    {encs : α → Array Value} {C : List α → α → World → Prop} {Kp : World → World → Prop} {S Sp : List α → Prop} {w0 : World} (hseq : SeqD F (n - 1) P gf lb encs C Kp S Sp w0)
    (hKt : ∀ {X Y Z : World}, Kp X Y → Kp Y Z → Kp X Z)
    (hKb : ∀ (W : World) (o o' : Obj), w.heap.size ≤ W.heap.size → W.heap[w.heap.size + 1]? = some o → o.isCells = false → o.isWalk = false → Kp W (W.putObj (w.heap.size + 1) o'))
    (hb0 : Below w0.heap.size w0 w) (hw0 : w.heap.size ≤ w0.heap.size) (hps : ∀ x, (encs x).size = ps.size) (hC : ∀ pre, OwnFrom w.heap.size (C pre))
    (I : List α → World → Prop) (Ix : Code → List α → World → Prop) (hI : OwnFrom w.heap.size I) (hIx : ∀ c, OwnFrom w.heap.size (Ix c)) (h0 : I [] w) (Ax : α → Act → World → Prop) (hAx : ∀ x a', OwnFrom w.heap.size (fun (_ : List α) W => Ax x a' W))
    (hassign : ∀ (l : Nat) (pre : List α) (x : α) (W : World) (K : Act → World → Prop), I pre W → C pre x W → (∀ a' W', Below W.heap.size W W' → Kp W W' → I pre W' → C pre x W' → Ax x a' W' → K a' W') →
      assign.wpIn (F.inRound l) (n - 1 - 1) P (Exit.then K (fun _ _ _ => False)) { tmps := (ps.zip (encs x)).foldl (fun t (p, v) => t.setIfInBounds p v) a.tmps, defers := [] } W)
    (hbody : ∀ (l : Nat) (pre : List α) (x : α) (a' : Act) (W : World), I pre W → C pre x W → Ax x a' W → body.wpIn (F.inRound l) (n - 1 - 1) P (outRg w.heap.size Kp I Ix (pre ++ [x]) W) a' W)
    (hdone : ∀ (D : Nat) (xs : List α) (W : World), w.heap.size ≤ D → S xs → I xs W → W.heap[D]? = some (.deferred (some [])) →
      Q .normal { a with defers := { target := .collected D, args := #[] } :: a.defers } W)
    (hstop : ∀ (D : Nat) (c : Code) (pre : List α) (W : World), w.heap.size ≤ D → Sp pre → Ix c pre W → W.heap[D]? = some (.deferred (some [])) →
      c.wpIn F n P Q { a with defers := { target := .collected D, args := #[] } :: a.defers } W) :
    (Code.rangeFunc g ps assign body).wpIn F n P Q a w := by
  refine wpIn_rangeFunc fun fn hfn => ?_
  obtain ⟨r, hr⟩ : ∃ r : LoopState → Option Code → Loop, r = fun st pe => { state := st, pending := pe, fn, tmps := a.tmps, params := ps, assign, body, defers := w.heap.size } := ⟨_, rfl⟩
  have bk : Books w.heap.size (r .ready none) ((w.alloc (.deferred (some []))).alloc (.loop (r .ready none))) :=
    ⟨(Below.heap_alloc _ _ _ (by simp)).trans (World.alloc_heap_new w _), by
      have := World.alloc_heap_new (w.alloc (.deferred (some []))) (.loop (r .ready none)); rwa [World.size_alloc] at this⟩
  have ent := run_enterLoop_outer (P := P) (w := w) fn a.tmps ps assign body
  rw [show (Loop.mk .ready none fn a.tmps ps assign body w.heap.size) = r .ready none by rw [hr]] at ent
  have i0 : I [] ((w.alloc (.deferred (some []))).alloc (.loop (r .ready none))) := hI.alloc _ (hI.alloc _ h0)
  have b1 : Below w0.heap.size w0 ((w.alloc (.deferred (some []))).alloc (.loop (r .ready none))) :=
    (hb0.alloc hb0.size _).alloc (by have := hb0.size; simp; omega) _
  have hsW : w.heap.size ≤ ((w.alloc (.deferred (some []))).alloc (.loop (r .ready none))).heap.size := by simp; omega
  have hsW3 : w.heap.size + 2 ≤ ((w.alloc (.deferred (some []))).alloc (.loop (r .ready none))).heap.size := by simp
  have hsW2 : w.heap.size + 1 < ((w.alloc (.deferred (some []))).alloc (.loop (r .ready none))).heap.size := by simp
  generalize (w.alloc (.deferred (some []))).alloc (.loop (r .ready none)) = W1 at *
  rw [hro]
  refine ⟨_, _, W1, { target := .fn (.func gf) lb, args := #[.func (.yield (w.heap.size + 1)) #[] #[]] }, W1, gf, #[.func (.yield (w.heap.size + 1)) #[] #[]] ++ lb, W1,
    ent, ?_, ?_, ?_, fun _ => h1, ?_⟩
  · simp only [resolve, hg]
    simp [go_sem]
  · intro f' hf'; simp [Target.leads] at hf'; subst hf'; exact hFg
  · simp [invoke, go_sem, eg]
  refine (hseq (w.heap.size + 1) (fun pre W => I pre W ∧ Books w.heap.size (r .ready none) W) (fun pre W => ∃ c, Ix c pre W ∧ Books w.heap.size (r .done (some c)) W) W1 b1 (by have := hb0.size; omega)
    (fun s X Y row h hg hr => ⟨hI s X Y row h.1 hg (fun r e => ⟨Nat.le_trans hsW (hr r e).1, (hr r e).2⟩), h.2.grown hsW2 hg (fun r e => (hr r e).1)⟩)
    (fun s X Y row h hg hr => by obtain ⟨c, hc, hk⟩ := h; exact ⟨c, hIx c s X Y row hc hg (fun r e => ⟨Nat.le_trans hsW (hr r e).1, (hr r e).2⟩), hk.grown hsW2 hg (fun r e => (hr r e).1)⟩)
    ?round ⟨i0, bk⟩).mono ?behind
  case round =>
    rintro pre x V ⟨hi, hk⟩ hc
    have y := run_yield (P := P) (args := encs x) hk.record (by rw [hr]; exact hps x)
    rw [hr] at y
    refine ⟨fn, _, assign, body, y, roundIn_of_wpIn hfn (hassign _ pre x V _ hi hc fun a' V1 hbl hkp hi1 hc1 hax => ?_)⟩
    have hk1 := hk.below hbl
    have bg := run_beginRound (P := P) hk1.record (by rw [hr])
    obtain ⟨rb, hrb⟩ : ∃ rb, rb = { r .ready none with state := .busy } := ⟨_, rfl⟩
    rw [← hrb] at bg
    have hkb := hk1.put rb
    have hl1 := hbl.size
    have kp1 : Kp V (V1.putObj (w.heap.size + 1) (.loop rb)) := hKt hkp (hKb _ _ _ (by have := hk1.lt; omega) hk1.record rfl rfl)
    have fin : ∀ (jump : Option Code) (V' : World), Books w.heap.size rb V' →
        (Instr.endRound (w.heap.size + 1) jump).run P V' = .ok (.bool jump.isNone) (V'.putObj (w.heap.size + 1) (.loop (r (if jump.isNone then .ready else .done) jump))) := fun jump V' h => by
      rw [run_endRound (P := P) jump h.record, hrb, hr]
    have hkf : ∀ (V' : World) (o : Obj), KeepsFrom w.heap.size (V1.putObj (w.heap.size + 1) (.loop rb)) V' → KeepsFrom (w0.heap.size + 2) V (V'.putObj (w.heap.size + 1) o) := fun V' o h =>
      ⟨by have h1 := h.size; simp [World.putObj] at h1 ⊢; omega, fun k p hk hp hc => by
        have h1 := (hbl.block k (Array.getElem?_eq_some_iff.1 hp).1).trans hp
        have h2 : (V1.putObj (w.heap.size + 1) (.loop rb)).heap[k]? = some p := (World.putObj_heap_other (by omega)).trans h1
        exact (World.putObj_heap_other (by omega)).trans (h.same k p (by omega) h2 hc)⟩
    refine ⟨_, bg, ?_⟩
    refine wpIn_mono (hbody _ pre x a' _ (OwnFrom.book hI hk1 hi1 rb) (OwnFrom.book (hC pre) hk1 hc1 rb) (OwnFrom.book (s := pre) (hAx x a') hk1 hax rb)) ?_
    rintro e a3 V' h
    cases e with
    | normal =>
      obtain ⟨h1, h2, h3⟩ := h
      have hk' := hkb.from h1
      exact ⟨_, _, fin none V' hk', .inl ⟨rfl, ⟨OwnFrom.book hI hk' h3 _, hk'.put _⟩, hKt (hKt kp1 h2) (hKb _ _ _ (by have := hk'.lt; omega) hk'.record rfl rfl)⟩⟩
    | ret =>
      obtain ⟨h1, h3⟩ := h
      have hk' := hkb.from h1
      exact ⟨_, _, fin (some .ret) V' hk', .inr ⟨rfl, ⟨.ret, OwnFrom.book (hIx _) hk' h3 _, hk'.put _⟩, hkf _ _ h1⟩⟩
    | exit id =>
      obtain ⟨h1, h3⟩ := h
      have hk' := hkb.from h1
      exact ⟨_, _, fin (some (.exit id)) V' hk', .inr ⟨rfl, ⟨.exit id, OwnFrom.book (hIx _) hk' h3 _, hk'.put _⟩, hkf _ _ h1⟩⟩
    | goto t => exact h.elim
    | panic ch => exact h.elim
    | outgrown => exact h.elim
  case behind =>
    rintro e V ⟨⟨v, rfl⟩, (⟨xs, hS, hi, hk⟩ | ⟨pre, hSp, c, hi, hk⟩)⟩
    · have en := run_endLoop (P := P) hk.record (by rw [hr]; simp)
      exact ⟨_, _, en, by rw [show (r .ready none).pending = none by rw [hr]]; exact hdone _ xs _ (Nat.le_refl _) hS (OwnFrom.book hI hk hi _) (hk.put _).marks⟩
    · have en := run_endLoop (P := P) hk.record (by rw [hr]; simp)
      exact ⟨_, _, en, by rw [show (r .done (some c)).pending = some c by rw [hr]]; exact hstop _ c pre _ (Nat.le_refl _) hSp (OwnFrom.book (hIx c) hk hi _) (hk.put _).marks⟩

/-- The marks of ranges over functions that a loop has left behind. -/
def mkOf (Ds : List Nat) : List Deferred := Ds.map fun D => { target := .collected D, args := #[] }
def Mks (k : Nat) (Ds : List Nat) (w : World) : Prop := Ds.Nodup ∧ ∀ D ∈ Ds, k ≤ D ∧ w.heap[D]? = some (.deferred (some []))
theorem Mks.nil (k : Nat) (w : World) : Mks k [] w := ⟨List.nodup_nil, fun D h => by simp at h⟩
theorem Mks.keep {k : Nat} {Ds : List Nat} {w w' : World} (h : Mks k Ds w) (hk : KeepsFrom k w w') : Mks k Ds w' := ⟨h.1, fun D hD => ⟨(h.2 D hD).1, hk.same D _ (h.2 D hD).1 (h.2 D hD).2 rfl⟩⟩
theorem Mks.lt {k : Nat} {Ds : List Nat} {w : World} (h : Mks k Ds w) : ∀ D ∈ Ds, D < w.heap.size := fun D hD => (Array.getElem?_eq_some_iff.1 (h.2 D hD).2).1
theorem Mks.cons {k D : Nat} {Ds : List Nat} {w : World} (h : Mks k Ds w) (hk : k ≤ D) (hD : w.heap[D]? = some (.deferred (some []))) (hn : D ∉ Ds) : Mks k (D :: Ds) w := ⟨List.nodup_cons.2 ⟨hn, h.1⟩, fun E hE => by
  rcases List.mem_cons.1 hE with rfl | hE
  · exact ⟨hk, hD⟩
  · exact h.2 E hE⟩
theorem leavesM {F : Fence} {n k : Nat} {fn : Func} {tmps : Array Value} {R : Ending → World → Prop} {T : World → Prop} (hT : ∀ w D, k ≤ D → w.heap[D]? = some (.deferred (some [])) → T w → T (w.putObj D (.deferred none)))
    (hR : ∀ w, T w → ∃ v, (results fn tmps).run P w = .ok v w ∧ R (.returned v) w) : ∀ (Ds : List Nat) (w : World), Mks k Ds w → T w → LeavesInM F n P fn tmps R (mkOf Ds) .returning w
  | [], w, _, hw => by
    obtain ⟨v, h1, h2⟩ := hR w hw
    exact ⟨v, h1, h2⟩
  | D :: Ds, w, h, hw => by
    have hD := h.2 D List.mem_cons_self
    have hn := List.nodup_cons.1 h.1
    refine ⟨by simp, .inl ⟨D, _, rfl, run_takeDeferred hD.2, leavesM hT hR Ds _ ⟨hn.2, fun E hE => ⟨(h.2 E (List.mem_cons_of_mem _ hE)).1, ?_⟩⟩ (hT w D hD.1 hD.2 hw)⟩⟩
    exact (World.putObj_heap_other (fun e => hn.1 (by first | (rw [e]; exact hE) | (rw [← e]; exact hE)))).trans (h.2 E (List.mem_cons_of_mem _ hE)).2
theorem retMs {F : Fence} {n k : Nat} {fn : Func} {a : Act} {R : Ending → World → Prop} {T : World → Prop} {Ds : List Nat} {w : World} (hd : a.defers = mkOf Ds) (hm : Mks k Ds w) (hw : T w) (hT : ∀ w D, k ≤ D → w.heap[D]? = some (.deferred (some [])) → T w → T (w.putObj D (.deferred none)))
    (hR : ∀ w, T w → ∃ v, (results fn a.tmps).run P w = .ok v w ∧ R (.returned v) w) : bodyPostM F n P fn R .ret a w := by
  show LeavesInM F n P fn a.tmps R a.defers .returning w
  rw [hd]
  exact leavesM hT hR Ds w hm hw
theorem retMs0 {F : Fence} {n k : Nat} {fn : Func} {a : Act} {R : Ending → World → Prop} {T : World → Prop} {Ds : List Nat} {w : World} (hd : a.defers = mkOf Ds) (hm : Mks k Ds w) (hw : T w) (hT : ∀ w D, k ≤ D → w.heap[D]? = some (.deferred (some [])) → T w → T (w.putObj D (.deferred none)))
    (hR : ∀ w, T w → ∃ v, (results fn a.tmps).run P w = .ok v w ∧ R (.returned v) w) : bodyPostM F n P fn R .normal a w := by
  show LeavesInM F n P fn a.tmps R a.defers .returning w
  rw [hd]
  exact leavesM hT hR Ds w hm hw
theorem kf_own {β : Type} {k B : Nat} {w0 : World} (h : w0.heap.size ≤ B) : OwnFrom B (fun (_ : β) W => KeepsFrom k w0 W) := fun s X Y row hs hg hr =>
  ⟨Nat.le_trans hs.size hg.size, fun i o hi ho hc => (hg.block i (Array.getElem?_eq_some_iff.1 (hs.same i o hi ho hc)).1 (fun e => by have := (hr i e.symm).1; have := (Array.getElem?_eq_some_iff.1 ho).1; omega)).trans (hs.same i o hi ho hc)⟩
theorem kf_trans {k : Nat} {X Y Z : World} (h : KeepsFrom k X Y) (g : KeepsFrom k Y Z) : KeepsFrom k X Z := ⟨Nat.le_trans h.size g.size, fun i o hi ho hc => g.same i o hi (h.same i o hi ho hc) hc⟩
theorem kf_mono {k k' : Nat} {X Y : World} (h : KeepsFrom k X Y) (hk : k ≤ k') : KeepsFrom k' X Y := ⟨h.size, fun i o hi ho hc => h.same i o (by omega) ho hc⟩

section
variable {α : Type} {g : Operand} {ps : Array Tmp} {assign body : Code} {Q : Exit → Act → World → Prop} {a : Act} {w : World} {gf : Nat} {lb : Array Value}
  {encs : α → Array Value} {C : List α → α → World → Prop} {Kp : World → World → Prop} {S Sp : List α → Prop} {w0 : World}
theorem wpIn_rangeD1 (hg : a.eval g = .func (.func gf) #[] lb) (eg : ∀ args w, (callFunc gf args).run P w = .ok (.enter gf args) w)
    (hseq : SeqD Fence.wide 2 P gf lb encs C Kp S Sp w0) (hKt : ∀ {X Y Z : World}, Kp X Y → Kp Y Z → Kp X Z)
    (hKb : ∀ (W : World) (o o' : Obj), w.heap.size ≤ W.heap.size → W.heap[w.heap.size + 1]? = some o → o.isCells = false → o.isWalk = false → Kp W (W.putObj (w.heap.size + 1) o'))
    (hKa : ∀ (W : World) (o : Obj), w.heap.size ≤ W.heap.size → Kp W (W.alloc o))
    (hb0 : Below w0.heap.size w0 w) (hw0 : w.heap.size ≤ w0.heap.size) (hps : ∀ x, (encs x).size = ps.size) (hC : ∀ pre, OwnFrom w.heap.size (C pre))
    (T : TypeId) (cs : α → Array Value) (q p : Nat) (v : α → Value)
    (I : List α → World → Prop) (Ix : Code → List α → World → Prop) (hI : OwnFrom w.heap.size I) (hIx : ∀ c, OwnFrom w.heap.size (Ix c)) (hIs : ∀ pre W, I pre W → w.heap.size ≤ W.heap.size) (h0 : I [] w)
    (hassign : ∀ (l : Nat) (x : α) (W : World) (K : Act → World → Prop), K { tmps := (a.tmps.setIfInBounds q (v x)).setIfInBounds p (.pointer (some ⟨W.heap.size, 0, none⟩)), defers := [] } (W.alloc (.cells (cs x) T)) →
      assign.wpIn (Fence.wide.inRound l) 1 P (Exit.then K (fun _ _ _ => False)) { tmps := (ps.zip (encs x)).foldl (fun t (p, v) => t.setIfInBounds p v) a.tmps, defers := [] } W)
    (hbody : ∀ (l : Nat) (pre : List α) (x : α) (Bd : Nat) (W : World), I pre W → C pre x W → w.heap.size ≤ Bd → Blk W Bd T (cs x) → body.wpIn (Fence.wide.inRound l) 1 P (outRg w.heap.size Kp I Ix (pre ++ [x]) W) { tmps := (a.tmps.setIfInBounds q (v x)).setIfInBounds p (.pointer (some ⟨Bd, 0, none⟩)), defers := [] } W)
    (hdone : ∀ (D : Nat) (xs : List α) (W : World), w.heap.size ≤ D → S xs → I xs W → W.heap[D]? = some (.deferred (some [])) →
      Q .normal { a with defers := { target := .collected D, args := #[] } :: a.defers } W)
    (hstop : ∀ (D : Nat) (c : Code) (pre : List α) (W : World), w.heap.size ≤ D → Sp pre → Ix c pre W → W.heap[D]? = some (.deferred (some [])) →
      c.wpIn Fence.wide 3 P Q { a with defers := { target := .collected D, args := #[] } :: a.defers } W) :
    (Code.rangeFunc g ps assign body).wpIn Fence.wide 3 P Q a w := by
  refine wpIn_rangeDA rfl (by omega) hg trivial eg hseq hKt hKb hb0 hw0 hps hC I Ix hI hIx h0
    (fun x a' W => ∃ Bd, w.heap.size ≤ Bd ∧ Blk W Bd T (cs x) ∧ a' = { tmps := (a.tmps.setIfInBounds q (v x)).setIfInBounds p (.pointer (some ⟨Bd, 0, none⟩)), defers := [] })
    (fun x a' _ X Y row hs hg hr => by
      obtain ⟨Bd, h1, h2, h3⟩ := hs
      exact ⟨Bd, h1, (blkB (β := Unit)) () X Y row h2 hg hr, h3⟩)
    ?_ ?_ hdone hstop
  · intro l pre x W K hi hc hK
    refine hassign l x W K (hK _ _ (below_a1 _ _) (hKa _ _ (hIs _ _ hi)) (hI.alloc _ hi) ((hC pre).alloc _ hc) ⟨W.heap.size, hIs _ _ hi, Blk.new _ _ _, rfl⟩)
  · rintro l pre x a' W hi hc ⟨Bd, h1, h2, rfl⟩
    exact hbody l pre x Bd W hi hc h1 h2
end
end Go.Proofs.Ytlacjifnniahhaa

namespace Go.Proofs.Ytlacjifnniahhaa
open Go Go.RowKit Go.Shelf
set_option linter.unusedVariables false
set_option linter.unusedSimpArgs false
/-- The blocks of the row that lies in a box. -/
def ownAt (sb : Nat) (V : World) : List Nat := match V.cell? ⟨sb, 0, none⟩ with
  | some v => blk v
  | none => []
theorem ownAt_cell {sb : Nat} {V V' : World} (h : V'.cell? ⟨sb, 0, none⟩ = V.cell? ⟨sb, 0, none⟩) : ownAt sb V' = ownAt sb V := by unfold ownAt; rw [h]
theorem ownAt_below {sb : Nat} {V V' : World} {n : Nat} (h : Below n V V') (hs : sb < n) : ownAt sb V' = ownAt sb V := ownAt_cell (h.cell (p := ⟨sb, 0, none⟩) hs)
theorem ownAt_blk {sb : Nat} {V : World} {T : TypeId} {v : Value} (h : Blk V sb T #[v]) : ownAt sb V = blk v := by
  unfold ownAt
  rw [h.cell 0]
  rfl
/-- All but the box and the box's row stays; the row may grow, in place or anew. -/
structure KpO (nb sb : Nat) (V V' : World) : Prop where
  os : V'.os = V.os
  tape : V'.tape = V.tape
  output : V'.output = V.output
  size : V.heap.size ≤ V'.heap.size
  keep : ∀ b (o : Obj), b ≠ sb → b ∉ ownAt sb V → V.heap[b]? = some o → o.isCells = true → V'.heap[b]? = some o
  own : ∀ b ∈ ownAt sb V', b ∈ ownAt sb V ∨ (V.heap.size ≤ b ∧ b < V'.heap.size)
  low : ∀ b, b < nb → b < V.heap.size → b ≠ sb → b ∉ ownAt sb V → V'.heap[b]? = V.heap[b]?
theorem KpO.refl (nb sb : Nat) (V : World) : KpO nb sb V V := ⟨rfl, rfl, rfl, Nat.le_refl _, fun _ _ _ _ h _ => h, fun _ h => .inl h, fun _ _ _ _ _ => rfl⟩
theorem KpO.trans {nb sb : Nat} {X Y Z : World} (h : KpO nb sb X Y) (k : KpO nb sb Y Z) : KpO nb sb X Z :=
  ⟨k.os.trans h.os, k.tape.trans h.tape, k.output.trans h.output, Nat.le_trans h.size k.size, fun b o hb hf ho hc => k.keep b o hb (fun hm => by
    rcases h.own b hm with h1 | h1
    · exact hf h1
    · have := (Array.getElem?_eq_some_iff.1 ho).1; omega) (h.keep b o hb hf ho hc) hc, fun b hb => by
    rcases k.own b hb with h1 | h1
    · rcases h.own b h1 with h2 | h2
      · exact .inl h2
      · exact .inr ⟨h2.1, Nat.lt_of_lt_of_le h2.2 k.size⟩
    · exact .inr ⟨Nat.le_trans h.size h1.1, h1.2⟩, fun b hb hl hs hf => (k.low b hb (Nat.lt_of_lt_of_le hl h.size) hs (fun hm => by
    rcases h.own b hm with h1 | h1
    · exact hf h1
    · omega)).trans (h.low b hb hl hs hf)⟩
theorem KpO.of {nb sb : Nat} {V V' : World} (h : Below V.heap.size V V') (hs : sb < V.heap.size) (_ : nb ≤ V.heap.size := by omega) : KpO nb sb V V' :=
  ⟨h.os, h.tape, h.output, h.size, fun b o _ _ ho _ => (h.block b (Array.getElem?_eq_some_iff.1 ho).1).trans ho, fun b hb => .inl (by rw [ownAt_below h hs] at hb; exact hb), fun b _ hl _ _ => h.block b hl⟩
theorem KpO.blk {nb sb p : Nat} {T : TypeId} {cs : Array Value} {V V' : World} (h : KpO nb sb V V') (K : Blk V p T cs) (h1 : p ≠ sb) (h2 : p ∉ ownAt sb V) : Blk V' p T cs := h.keep p _ h1 h2 K rfl
theorem kpO_b {nb sb : Nat} {w : World} (hn : nb ≤ w.heap.size) (hs : sb < w.heap.size) (W : World) (l : Nat) (o o' : Obj) (hl : w.heap.size ≤ l) (h : W.heap[l]? = some o) (h1 : o.isCells = false) (h2 : o.isWalk = false) : KpO nb sb W (W.putObj l o') :=
  ⟨rfl, rfl, rfl, by simp [World.putObj], fun b p hb hf hp hc => (World.putObj_heap_other (fun e => by subst e; rw [h] at hp; cases hp; rw [h1] at hc; cases hc)).trans hp,
    fun b hb => .inl (by rw [ownAt_cell (World.cell?_of_block (World.putObj_heap_other (by simp; omega)))] at hb; exact hb), fun b hb _ _ _ => World.putObj_heap_other (by omega)⟩
theorem KpO.lt {nb sb : Nat} {V V' : World} (h : KpO nb sb V V') (ho : ∀ b ∈ ownAt sb V, b < V.heap.size) : ∀ b ∈ ownAt sb V', b < V'.heap.size := fun b hb => by
  rcases h.own b hb with h1 | h1
  · exact Nat.lt_of_lt_of_le (ho b h1) h.size
  · exact h1.2
theorem kpO_own {β : Type} {nb sb B : Nat} {w0 : World} (h1 : nb ≤ B) (h2 : sb < w0.heap.size) (h3 : sb < B) : OwnFrom B (fun (_ : β) W => KpO nb sb w0 W) := fun s X Y row hs hg hr =>
  hs.trans ⟨hg.os, hg.tape, hg.output, hg.size, fun b o _ _ ho hc => (hg.block b (Array.getElem?_eq_some_iff.1 ho).1 (fun e => by obtain ⟨_, p, hp, hpc⟩ := hr b e.symm; rw [ho] at hp; cases hp; rw [hc] at hpc; cases hpc)).trans ho,
    fun b hb => .inl (by rw [ownAt_cell (World.cell?_of_block (hg.block sb (by have := hs.size; omega) (fun e => by have := (hr sb e.symm).1; omega)))] at hb; exact hb), fun b hb hl _ _ => hg.block b hl (fun e => by have := (hr b e.symm).1; omega)⟩
/-- The same, and no record of a loop from k0 on is turned. -/
structure KpP (k0 nb sb : Nat) (V V' : World) : Prop where
  o : KpO nb sb V V'
  kf : KeepsFrom k0 V V'
theorem KpP.trans {k0 nb sb : Nat} {X Y Z : World} (h : KpP k0 nb sb X Y) (k : KpP k0 nb sb Y Z) : KpP k0 nb sb X Z := ⟨h.o.trans k.o, ⟨Nat.le_trans h.kf.size k.kf.size, fun i o hi ho hc => k.kf.same i o hi (h.kf.same i o hi ho hc) hc⟩⟩
theorem kfB {W V : World} (h : Below W.heap.size W V) (B : Nat) : KeepsFrom B W V := (koB h).from B
attribute [local go_sem] Oper.semAt_some
set_option maxRecDepth 100000 in
set_option maxHeartbeats 1000000 in
theorem dots_stopsO (Bx nb sb N : Nat) (c : Bw) (w0 : World) (hK : Blk w0 Bx 70 (bwL c).toArray) (hsb : sb < w0.heap.size) (hO : ∀ b ∈ ownAt sb w0, b < w0.heap.size) (hnb : nb ≤ w0.heap.size) (hN : pcW c = N) :
    SeqC Fence.wide 2 Try.prog 91 #[.pointer (some ⟨Bx, 0, none⟩)] (fun x : Dt => #[.agg #[.int .i64 x.1, .int .i64 x.2]]) (fun pre x _ => pre.length < N ∧ x = atW c ((pre.length : Int) + 1) N) (KpO nb sb) (fun xs => xs.length = N) (fun _ => True) w0 := by
  intro l J Jx W hW hJ hJx hY h0
  have hn : N ≤ 256 := by
    have := pcs_in (need c)
    unfold pcW at hN
    split at hN <;> omega
  have hmay : 1 ≤ N → mayW c = true := fun h => by
    unfold pcW at hN
    split at hN
    · assumption
    · omega
  have hsw := hW.size
  have CP := fun V => cpcs_any c V
  have CD := fun V => cplacesD c V
  have HA := Lib.hid (fun (h : mayW c = true) (b : Nat) (k : Nat) (hk : k < N) (V : World) (K : Blk V b 27 ((plc c).flatMap dtL).toArray) => catD c h b ((k : Int) + 1) N (by omega) (by omega) (by omega) (by omega) V K)
  rw [hN] at CP
  have KW := hK.below hW
  have kl := KW.lt
  have HKW := Lib.hid KW
  have HM := Lib.hid hmay
  clear hmay hN hK
  have k0 := KW.cell 0
  have k1 := KW.cell 1
  have k2 := KW.cell 2
  have k3 := KW.cell 3
  have k4 := KW.cell 4
  have k5 := KW.cell 5
  have k6 := KW.cell 6
  have k7 := KW.cell 7
  have k8 := KW.cell 8
  simp only [bwL, List.getElem?_toArray, List.getElem?_cons_succ, List.getElem?_cons_zero] at k0 k1 k2 k3 k4 k5 k6 k7 k8
  simp only [bwV] at CP CD
  clear KW
  refine callsIn_of_wp Try.func91 rfl trivial ?_ rfl
  simp only [Try.ntmps91, List.size_toArray, List.length_cons, List.length_nil, Nat.reduceAdd, Nat.reduceSub, Array.replicate_succ, Array.replicate_zero, List.push_toArray, List.append_toArray, List.nil_append, List.cons_append]
  gi_wp2_with (refine ⟨trivial, ?_⟩; first
    | (gi_at_call 39; ((refine (callsIn_wide.2 (CP _)).mono ?_); rintro e w3 ⟨rfl, b3⟩; have K3 := HKW.out.below b3; have kl := K3.lt; have k0 := K3.cell 0; have k1 := K3.cell 1; have k2 := K3.cell 2; have k3 := K3.cell 3; have k4 := K3.cell 4; have k5 := K3.cell 5; have k6 := K3.cell 6; have k7 := K3.cell 7; have k8 := K3.cell 8; simp only [bwL, List.getElem?_toArray, List.getElem?_cons_succ, List.getElem?_cons_zero] at k0 k1 k2 k3 k4 k5 k6 k7 k8; clear K3))
    | (gi_at_call 86; ((refine (callsIn_wide.2 (CD _)).mono ?_); rintro e w4 ⟨A, m, rfl, hpl, b4⟩; have b34 := b3.trans (b4.mono b3.size); have hs34 := b3.size; have h1 := hJ _ _ _ h0 b34; clear k0 k1 k2 k3 k4 k5 k6 k7 k8 kl)))
  have HP := Lib.hid hpl
  have hw04 : Below w0.heap.size w0 w4 := hW.trans (b34.mono hW.size)
  have hown4 : ownAt sb w4 = ownAt sb w0 := ownAt_below hw04 hsb
  have HOW := Lib.hid (show ∀ b, w3.heap.size ≤ b → b ≠ sb ∧ b ∉ ownAt sb w4 from fun b hb => ⟨by have := b3.size; omega, fun hm => by rw [hown4] at hm; have := hO b hm; have := b3.size; omega⟩)
  have hs04 := hw04.size
  have hs4 := b34.size
  have hs5 := b4.size
  clear hpl b3 b4
  gi_loopw [11] (fun i wr => ∃ pre : List Dt, pre.length ≤ N ∧ i = .int .i64 pre.length ∧ J pre wr ∧ KpO nb sb w4 wr) (fun i _ => N - (intOf i).toNat)
  case atStart => exact ⟨[], Nat.zero_le _, rfl, h1, KpO.refl _ _ _⟩
  case round =>
    obtain ⟨pre, hk, rfl, hJk, hb⟩ := hrel
    obtain ⟨k, hpk⟩ : ∃ k, pre.length = k := ⟨_, rfl⟩
    have HPK := Lib.hid hpk
    rw [hpk] at hk
    clear h0 h1
    by_cases hlt : k < N
    · have d1 : pre.length < N := by rw [hpk]; exact hlt
      have hm := HM.out (by omega)
      obtain ⟨rfl, b, rfl, hbl, K4⟩ := HP.out hm
      have CA := HA.out hm b k hlt wr (hb.blk K4 (HOW.out b hbl).1 (HOW.out b hbl).2)
      rw [← hpk] at CA
      have hkn : k < 256 := by omega
      have e1 : IntKind.i64.wrap ((pre.length : Int) + 1) = (pre.length : Int) + 1 := IntWalk.i64_in _ (by omega)
      clear hpk
      gi_wp2_with (refine ⟨trivial, ?_⟩; first
        | (gi_at_call 92; ((refine (callsIn_wide.2 CA).mono ?_); rintro e w5 ⟨rfl, b5⟩; obtain ⟨fn, tmps, assign, body, hy, hRd⟩ := hY pre (atW c ((pre.length : Int) + 1) N) w5 (hJ _ _ _ hJk b5) ⟨by rw [HPK.out]; exact hlt, rfl⟩)))
      refine hRd.mono ?_
      rintro e V (⟨rfl, hJ3, lv⟩ | ⟨rfl, hJx3⟩)
      · gi_wp2
        go_roundw
        case rel => exact ⟨_, by rw [List.length_append, HPK.out]; simp; omega, by rw [List.length_append]; go_num, hJ3, (hb.trans (KpO.of b5 (by have := hb.size; omega) (by have := hb.size; omega))).trans lv⟩
        case measure => simp [intOf]; omega
      · gi_wp2
        refine bodyPost_ret (results_none rfl _ _ _) rfl ?_
        exact ⟨⟨_, rfl⟩, .inr ⟨_, trivial, hJx3⟩⟩
    · have d1 : ¬ pre.length < N := by rw [hpk]; exact hlt
      gi_wp2
      go_end0
      exact ⟨⟨_, rfl⟩, .inl ⟨pre, by rw [HPK.out]; omega, hJk⟩⟩
end Go.Proofs.Ytlacjifnniahhaa
