/- Part 16 of the proof: CmY, CmZ, CmEn. -/
import Derived.Test.YtekailhghjideaaCCm14

namespace Go.Proofs.Ytekailhghjideaa
open Go Go.RowKit
set_option linter.unusedVariables false
set_option linter.unusedSimpArgs false

def NumB (m : Mtx) (n : Nat) (w : World) (e : Ending) (w' : World) : Prop := ∃ b cs cc, e = .returned (.slice (some ⟨b, 0, none⟩) n cc) ∧ Blk w' b 3 (intCells cs).toArray ∧ numsM m n = cs.take n ∧ w.heap.size ≤ b ∧ Below w.heap.size w w'
set_option maxRecDepth 100000 in
theorem numbersB_0 (a b c d : Int) (w : World) : Calls Try.prog 58 #[.agg #[.int .i64 a, .int .i64 b, .int .i64 c, .int .i64 d], .int .i64 0] w (NumB (a, b, c, d) 0 w) := by
  have HL := Blk.new (w.alloc (.cells #[.int .i64 a, .int .i64 b, .int .i64 c, .int .i64 d] 34)) 3 [.int .i64 a, .int .i64 d].toArray
  rw [World.size_alloc] at HL
  have HB : Below w.heap.size w ((w.alloc (.cells #[.int .i64 a, .int .i64 b, .int .i64 c, .int .i64 d] 34)).alloc (.cells [.int .i64 a, .int .i64 d].toArray 3)) := ((Below.refl _ _).alloc (Nat.le_refl _) _).alloc (by simp) _
  go_enter Try.func58, Try.ntmps58
  go_wp2
  go_ret
  exact ⟨w.heap.size + 1, [a, d], 2, rfl, HL, rfl, by simp, HB⟩

set_option maxRecDepth 100000 in
theorem numbersB_1 (a b c d : Int) (w : World) : Calls Try.prog 58 #[.agg #[.int .i64 a, .int .i64 b, .int .i64 c, .int .i64 d], .int .i64 1] w (NumB (a, b, c, d) 1 w) := by
  have HL := Blk.new (w.alloc (.cells #[.int .i64 a, .int .i64 b, .int .i64 c, .int .i64 d] 34)) 3 [.int .i64 a, .int .i64 d].toArray
  rw [World.size_alloc] at HL
  have HB : Below w.heap.size w ((w.alloc (.cells #[.int .i64 a, .int .i64 b, .int .i64 c, .int .i64 d] 34)).alloc (.cells [.int .i64 a, .int .i64 d].toArray 3)) := ((Below.refl _ _).alloc (Nat.le_refl _) _).alloc (by simp) _
  go_enter Try.func58, Try.ntmps58
  go_wp2
  go_ret
  exact ⟨w.heap.size + 1, [a, d], 2, rfl, HL, rfl, by simp, HB⟩

set_option maxRecDepth 100000 in
theorem numbersB_2 (a b c d : Int) (w : World) : Calls Try.prog 58 #[.agg #[.int .i64 a, .int .i64 b, .int .i64 c, .int .i64 d], .int .i64 2] w (NumB (a, b, c, d) 2 w) := by
  have HL := Blk.new (w.alloc (.cells #[.int .i64 a, .int .i64 b, .int .i64 c, .int .i64 d] 34)) 3 [.int .i64 a, .int .i64 d].toArray
  rw [World.size_alloc] at HL
  have HB : Below w.heap.size w ((w.alloc (.cells #[.int .i64 a, .int .i64 b, .int .i64 c, .int .i64 d] 34)).alloc (.cells [.int .i64 a, .int .i64 d].toArray 3)) := ((Below.refl _ _).alloc (Nat.le_refl _) _).alloc (by simp) _
  go_enter Try.func58, Try.ntmps58
  go_wp2
  go_ret
  exact ⟨w.heap.size + 1, [a, d], 2, rfl, HL, rfl, by simp, HB⟩

set_option maxRecDepth 100000 in
theorem numbersB_4 (a b c d : Int) (w : World) : Calls Try.prog 58 #[.agg #[.int .i64 a, .int .i64 b, .int .i64 c, .int .i64 d], .int .i64 4] w (NumB (a, b, c, d) 4 w) := by
  have HL := Blk.new (w.alloc (.cells #[.int .i64 a, .int .i64 b, .int .i64 c, .int .i64 d] 34)) 3 [.int .i64 a, .int .i64 b, .int .i64 c, .int .i64 d].toArray
  rw [World.size_alloc] at HL
  have HB : Below w.heap.size w ((w.alloc (.cells #[.int .i64 a, .int .i64 b, .int .i64 c, .int .i64 d] 34)).alloc (.cells [.int .i64 a, .int .i64 b, .int .i64 c, .int .i64 d].toArray 3)) := ((Below.refl _ _).alloc (Nat.le_refl _) _).alloc (by simp) _
  go_enter Try.func58, Try.ntmps58
  go_wp2
  go_ret
  exact ⟨w.heap.size + 1, [a, b, c, d], 4, rfl, HL, rfl, by simp, HB⟩

theorem numbersB_any (m : Mtx) (n : Nat) (hn : n = 0 ∨ n = 1 ∨ n = 2 ∨ n = 4) (w : World) : Calls Try.prog 58 #[mtV m, .int .i64 n] w (NumB m n w) := by
  obtain ⟨a, b, c, d⟩ := m
  rcases hn with rfl | rfl | rfl | rfl
  · exact numbersB_0 a b c d w
  · exact numbersB_1 a b c d w
  · exact numbersB_2 a b c d w
  · exact numbersB_4 a b c d w
theorem shortN_n (m : Mtx) : ∃ n : Nat, (shortN m).2 = n ∧ (n = 0 ∨ n = 1 ∨ n = 2 ∨ n = 4) := by
  unfold shortN
  split
  · exact ⟨0, rfl, by simp⟩
  · split
    · exact ⟨1, rfl, by simp⟩
    · split
      · exact ⟨2, rfl, by simp⟩
      · exact ⟨4, rfl, by simp⟩
theorem fieldF1 (x y : Int) (w : World) : (Instr.field 75 (.agg #[.int .i64 x, .int .i64 y]) 1).run Try.prog w = .ok (.int .i64 y) w := by kernel_rfl
theorem safe_below {w w' : World} (h : Below w.heap.size w w') : Safe w w' := fun _ _ _ _ _ _ k => k.below h
theorem Safe.trans {a b c : World} (h : Safe a b) (k : Safe b c) : Safe a c := fun q T cs h1 h2 h3 x => k q T cs h1 h2 h3 (h q T cs h1 h2 h3 x)
theorem flat2_len : ∀ l : List Int, (l.flatMap be2).length = 2 * l.length
  | [] => rfl
  | a :: r => by rw [List.flatMap_cons, List.length_append, flat2_len r]; simp [be2]; omega
theorem cs_get {l cs : List Int} {n k : Nat} {z : Int} (h : l = cs.take n) (hz : l[k]? = some z) (hk : k < n) : (intCells cs).toArray[k]? = some (.int .i64 z) := by
  subst h
  rw [List.getElem?_take, if_pos hk] at hz
  unfold intCells
  rw [List.getElem?_toArray, List.getElem?_map, hz]
  rfl
def ak : Nat → List Value → List Value → List Value
  | 0, _, _ => []
  | 1, A, _ => A
  | _, A, B => A ++ B
theorem idx0 (x y : Int) (w : World) : (Instr.index 89 (.agg #[.int .i64 x, .int .i64 y]) (.int .i64 0)).run Try.prog w = .ok (.int .i64 x) w := by kernel_rfl
theorem idx1 (x y : Int) (w : World) : (Instr.index 89 (.agg #[.int .i64 x, .int .i64 y]) (.int .i64 1)).run Try.prog w = .ok (.int .i64 y) w := by kernel_rfl
/-- A part's bytes. -/
def putE (P : Prt) (f : Int) (wide : Bool) : List Value :=
  be2 f ++ be2 P.1 ++ (if wide then be2 (argsP P).1 ++ be2 (argsP P).2 else be1 (argsP P).1 ++ be1 (argsP P).2) ++ (numsM P.2.1 (shortN P.2.1).2.toNat).flatMap be2
set_option maxRecDepth 100000 in
set_option maxHeartbeats 2000000 in
theorem putPart_0 (w0 w : World) (p R : Nat) (L : List Value) (P : Prt) (f : Int) (h : WS w0 w p R L) (hx : L.length + 16 ≤ R) (hR : R ≤ 1099511627776) (e1 : bits .and .i64 f 1 = 0) :
    Calls Try.prog 30 #[.pointer (some ⟨p, 0, none⟩), .agg (prL P).toArray, .int .i64 f] w (Went w0 w p R L (putE P f false)) := by
  obtain ⟨g, ⟨a, b, c, d⟩, mm, x, y, t, pp, qq⟩ := P
  have CF := fun W => argumentsOf_any (g, (a, b, c, d), mm, x, y, t, pp, qq) W
  have CS := fun W => shortest_any (a, b, c, d) W
  obtain ⟨n, hn2, hn4⟩ := shortN_n (a, b, c, d)
  have CN := fun W => numbersB_any (a, b, c, d) n hn4 W
  have hnl := numsM_len (a, b, c, d) n hn4
  unfold putE
  simp only [hn2, Int.toNat_natCast]
  generalize shortN (a, b, c, d) = s at *
  obtain ⟨s, s2⟩ := s
  simp only at hn2
  subst hn2
  generalize argsP (g, (a, b, c, d), mm, x, y, t, pp, qq) = uv at *
  obtain ⟨u, v⟩ := uv
  simp only [mtV, fmL, prL] at CS CF CN ⊢
  have cf1 := fun w => fieldF1 s n w
  have HR := Lib.hid hR
  have ci0 := fun w => idx0 u v w
  have ci1 := fun w => idx1 u v w
  have W0 := h.alloc (.cells #[.int .i64 g, .int .i64 a, .int .i64 b, .int .i64 c, .int .i64 d, .bool mm, .int .i64 x, .int .i64 y, .bool t, .int .i64 pp, .int .i64 qq] 36)
  have K0 := Blk.new w 36 #[.int .i64 g, .int .i64 a, .int .i64 b, .int .i64 c, .int .i64 d, .bool mm, .int .i64 x, .int .i64 y, .bool t, .int .i64 pp, .int .i64 qq]
  have Z0 : w.heap.size ≤ (w.alloc (.cells #[.int .i64 g, .int .i64 a, .int .i64 b, .int .i64 c, .int .i64 d, .bool mm, .int .i64 x, .int .i64 y, .bool t, .int .i64 pp, .int .i64 qq] 36)).heap.size := by simp
  have SX : Safe w (w.alloc (.cells #[.int .i64 g, .int .i64 a, .int .i64 b, .int .i64 c, .int .i64 d, .bool mm, .int .i64 x, .int .i64 y, .bool t, .int .i64 pp, .int .i64 qq] 36)) := safe_below ((Below.refl _ _).alloc (Nat.le_refl _) _)
  go_enter Try.func30, Try.ntmps30
  go_wp2
  generalize w.alloc (.cells #[.int .i64 g, .int .i64 a, .int .i64 b, .int .i64 c, .int .i64 d, .bool mm, .int .i64 x, .int .i64 y, .bool t, .int .i64 pp, .int .i64 qq] 36) = X0 at *
  refine wp_region_chain (fun W' => Blk W' w.heap.size 36 #[.int .i64 g, .int .i64 a, .int .i64 b, .int .i64 c, .int .i64 d, .bool mm, .int .i64 x, .int .i64 y, .bool t, .int .i64 pp, .int .i64 qq]) [(0, false), (1, false), (3, false), (4, false), (2, true), (5, true)] (by kernel_rfl) (by kernel_rfl) (K0.below ((Below.refl _ _).drew)) ?_
  repeat (first
    | (refine ChainL.skip (o := ?_) ?_ ?_ ?_; rotate_left; (focus (first | (simp only [List.getElem?_toArray, List.getElem?_cons_succ, List.getElem?_cons_zero]; with_reducible rfl) | (simp only [List.getElem?_toArray, List.getElem?_cons_zero]; with_reducible rfl))); (focus rfl); simp only [Act.put, List.setIfInBounds_toArray, List.set_cons_zero, List.set_cons_succ])
    | (refine ChainL.val (o := ?_) (v := ?_) ?_ ?_ ?_ ?_ ?_; rotate_left 2; (focus (first | (simp only [List.getElem?_toArray, List.getElem?_cons_succ, List.getElem?_cons_zero]; with_reducible rfl) | (simp only [List.getElem?_toArray, List.getElem?_cons_zero]; with_reducible rfl))); (focus (intro _ _ h; cases h)); (focus rfl); (focus (intro w' hI; have k1 := hI.cell 1; have k2 := hI.cell 2; have k3 := hI.cell 3; have k4 := hI.cell 4; have k0 := hI.cell 0; simp only [List.getElem?_toArray, List.getElem?_cons_zero, List.getElem?_cons_succ] at k1 k2 k3 k4 k0; go_simp <;> with_reducible rfl)); simp only [Act.put, List.setIfInBounds_toArray, List.set_cons_zero, List.set_cons_succ]))
  refine ChainL.call (o := ?_) (f := ?_) (args := ?_) ?_ ?_ ?_ ?_
  rotate_left 3
  (focus (simp only [List.getElem?_toArray, List.getElem?_cons_succ, List.getElem?_cons_zero]; with_reducible rfl))
  (focus rfl)
  (focus (go_simp; (constructor <;> with_reducible rfl)))
  refine (wsU16 w0 _ p R L f (W0.below ((Below.refl _ _).drew)) (by omega) hR).mono ?_
  rintro e w1 ⟨rfl, W1, sf1, sz1⟩
  have K1 := sf1 _ _ _ (by decide) (by decide) (by decide) (K0.below ((Below.refl _ _).drew)); refine ⟨_, rfl, K1, ?_⟩
  simp only [Act.put, List.setIfInBounds_toArray, List.set_cons_zero, List.set_cons_succ]
  refine ChainL.call (o := ?_) (f := ?_) (args := ?_) ?_ ?_ ?_ ?_
  rotate_left 3
  (focus (simp only [List.getElem?_toArray, List.getElem?_cons_succ, List.getElem?_cons_zero]; with_reducible rfl))
  (focus rfl)
  (focus (go_simp; (constructor <;> with_reducible rfl)))
  refine (wsU16 w0 _ p R (L ++ be2 f) g W1 (by simp [be2]; omega) hR).mono ?_
  rintro e w2 ⟨rfl, W2, sf2, sz2⟩
  have K2 := sf2 _ _ _ (by decide) (by decide) (by decide) K1; refine ⟨_, rfl, K2, ?_⟩
  simp only [Act.put, List.setIfInBounds_toArray, List.set_cons_zero, List.set_cons_succ]
  repeat (first
    | (refine ChainL.skip (o := ?_) ?_ ?_ ?_; rotate_left; (focus (first | (simp only [List.getElem?_toArray, List.getElem?_cons_succ, List.getElem?_cons_zero]; with_reducible rfl) | (simp only [List.getElem?_toArray, List.getElem?_cons_zero]; with_reducible rfl))); (focus rfl); simp only [Act.put, List.setIfInBounds_toArray, List.set_cons_zero, List.set_cons_succ])
    | (refine ChainL.val (o := ?_) (v := ?_) ?_ ?_ ?_ ?_ ?_; rotate_left 2; (focus (first | (simp only [List.getElem?_toArray, List.getElem?_cons_succ, List.getElem?_cons_zero]; with_reducible rfl) | (simp only [List.getElem?_toArray, List.getElem?_cons_zero]; with_reducible rfl))); (focus (intro _ _ h; cases h)); (focus rfl); (focus (intro w' hI; have k1 := hI.cell 1; have k2 := hI.cell 2; have k3 := hI.cell 3; have k4 := hI.cell 4; have k0 := hI.cell 0; simp only [List.getElem?_toArray, List.getElem?_cons_zero, List.getElem?_cons_succ] at k1 k2 k3 k4 k0; go_simp <;> with_reducible rfl)); simp only [Act.put, List.setIfInBounds_toArray, List.set_cons_zero, List.set_cons_succ]))
  refine ChainL.nil ?_
  have S2 : Safe w w2 := ((safe_below ((Below.refl _ _).drew)).trans sf1).trans sf2 |> SX.trans
  have Z2 : w.heap.size ≤ w2.heap.size := by simp at sz1; omega
  clear sf1 sf2 W1 K1 K0 W0
  go_wp2_with (first | (go_at_call 57; ((with_reducible refine (CF _).mono ?_); rintro e w3 ⟨rfl, b3⟩; have W3 := W2.below b3; have K3 := K2.below b3)) | (refine wpList_load_row rfl 36 (.tmp 4) (by with_reducible rfl) w.heap.size (by rfl) 36 #[.int .i64 g, .int .i64 a, .int .i64 b, .int .i64 c, .int .i64 d, .bool mm, .int .i64 x, .int .i64 y, .bool t, .int .i64 pp, .int .i64 qq] (0, 0) _ (by exact K2) Try.underlying36 rfl prSize ?_))
  go_loopw [26] (fun i wr => ∃ k : Nat, k ≤ 2 ∧ i = .int .i64 k ∧ WS w0 wr p R (L ++ be2 f ++ be2 g ++ ak k (be1 u) (be1 v)) ∧ Blk wr w.heap.size 36 #[.int .i64 g, .int .i64 a, .int .i64 b, .int .i64 c, .int .i64 d, .bool mm, .int .i64 x, .int .i64 y, .bool t, .int .i64 pp, .int .i64 qq] ∧ Safe w wr ∧ w.heap.size ≤ wr.heap.size) (fun i _ => 2 - (intOf i).toNat)
  case atStart => exact ⟨0, by omega, rfl, by simpa [ak] using W3, K3, S2.trans (safe_below b3), Nat.le_trans Z2 b3.size⟩
  case round =>
    obtain ⟨k, hk, rfl, hW, hK, hS, hZ⟩ := hrel
    clear W2 K2 W3 K3 S2 Z2 SX
    rcases (show k = 0 ∨ k = 1 ∨ k = 2 by omega) with rfl | rfl | rfl
    · 
      have z0 : ((0 : Nat) : Int) = 0 := rfl
      have z1 : ((1 : Nat) : Int) = 1 := rfl
      have CA := wsU8 w0 wr p R (L ++ be2 f ++ be2 g ++ ak 0 (be1 u) (be1 v)) u hW (by simp [be1, be2, ak]; omega) hR
      go_wp2_with (go_at_call 56; ((with_reducible refine (CA).mono ?_); rintro e w4 ⟨rfl, hW4, sf4, sz4⟩))
      go_roundw
      case rel => exact ⟨1, by omega, rfl, by simpa [ak] using hW4, sf4 _ _ _ (by decide) (by decide) (by decide) hK, hS.trans sf4, by omega⟩
      case measure => simp [intOf]
    · 
      have z0 : ((0 : Nat) : Int) = 0 := rfl
      have z1 : ((1 : Nat) : Int) = 1 := rfl
      have CA := wsU8 w0 wr p R (L ++ be2 f ++ be2 g ++ ak 1 (be1 u) (be1 v)) v hW (by simp [be1, be2, ak]; omega) hR
      go_wp2_with (go_at_call 56; ((with_reducible refine (CA).mono ?_); rintro e w4 ⟨rfl, hW4, sf4, sz4⟩))
      go_roundw
      case rel => exact ⟨2, by omega, rfl, by simpa [ak] using hW4, sf4 _ _ _ (by decide) (by decide) (by decide) hK, hS.trans sf4, by omega⟩
      case measure => simp [intOf]
    · have hW : WS w0 wr p R (L ++ be2 f ++ be2 g ++ (be1 u ++ be1 v)) := hW
      go_wp2
      refine wp_region_chain (fun W' => Blk W' w.heap.size 36 #[.int .i64 g, .int .i64 a, .int .i64 b, .int .i64 c, .int .i64 d, .bool mm, .int .i64 x, .int .i64 y, .bool t, .int .i64 pp, .int .i64 qq]) [(0, false), (1, false), (2, false), (3, false), (8, false), (4, true), (5, false), (6, true), (7, false)] (by kernel_rfl) (by kernel_rfl) (hK.below ((Below.refl _ _).drew)) ?_
      repeat (first
        | (refine ChainL.skip (o := ?_) ?_ ?_ ?_; rotate_left; (focus (first | (simp only [List.getElem?_toArray, List.getElem?_cons_succ, List.getElem?_cons_zero]; with_reducible rfl) | (simp only [List.getElem?_toArray, List.getElem?_cons_zero]; with_reducible rfl))); (focus rfl); simp only [Act.put, List.setIfInBounds_toArray, List.set_cons_zero, List.set_cons_succ])
        | (refine ChainL.val (o := ?_) (v := ?_) ?_ ?_ ?_ ?_ ?_; rotate_left 2; (focus (first | (simp only [List.getElem?_toArray, List.getElem?_cons_succ, List.getElem?_cons_zero]; with_reducible rfl) | (simp only [List.getElem?_toArray, List.getElem?_cons_zero]; with_reducible rfl))); (focus (intro _ _ h; cases h)); (focus rfl); (focus (intro w' hI; have k1 := hI.cell 1; have k2 := hI.cell 2; have k3 := hI.cell 3; have k4 := hI.cell 4; have k0 := hI.cell 0; simp only [List.getElem?_toArray, List.getElem?_cons_zero, List.getElem?_cons_succ] at k1 k2 k3 k4 k0; go_simp <;> with_reducible rfl)); simp only [Act.put, List.setIfInBounds_toArray, List.set_cons_zero, List.set_cons_succ]))
      refine ChainL.call (o := ?_) (f := ?_) (args := ?_) ?_ ?_ ?_ ?_
      rotate_left 3
      (focus (simp only [List.getElem?_toArray, List.getElem?_cons_succ, List.getElem?_cons_zero]; with_reducible rfl))
      (focus rfl)
      (focus (go_simp; (constructor <;> with_reducible rfl)))
      refine (CS _).mono ?_
      rintro e w4 ⟨rfl, b4⟩
      have K4 := (hK.below ((Below.refl _ _).drew)).below b4; refine ⟨_, rfl, K4, ?_⟩
      simp only [Act.put, List.setIfInBounds_toArray, List.set_cons_zero, List.set_cons_succ]
      repeat (first
        | (refine ChainL.skip (o := ?_) ?_ ?_ ?_; rotate_left; (focus (first | (simp only [List.getElem?_toArray, List.getElem?_cons_succ, List.getElem?_cons_zero]; with_reducible rfl) | (simp only [List.getElem?_toArray, List.getElem?_cons_zero]; with_reducible rfl))); (focus rfl); simp only [Act.put, List.setIfInBounds_toArray, List.set_cons_zero, List.set_cons_succ])
        | (refine ChainL.val (o := ?_) (v := ?_) ?_ ?_ ?_ ?_ ?_; rotate_left 2; (focus (first | (simp only [List.getElem?_toArray, List.getElem?_cons_succ, List.getElem?_cons_zero]; with_reducible rfl) | (simp only [List.getElem?_toArray, List.getElem?_cons_zero]; with_reducible rfl))); (focus (intro _ _ h; cases h)); (focus rfl); (focus (intro w' hI; have k1 := hI.cell 1; have k2 := hI.cell 2; have k3 := hI.cell 3; have k4 := hI.cell 4; have k0 := hI.cell 0; simp only [List.getElem?_toArray, List.getElem?_cons_zero, List.getElem?_cons_succ] at k1 k2 k3 k4 k0; go_simp <;> with_reducible rfl)); simp only [Act.put, List.setIfInBounds_toArray, List.set_cons_zero, List.set_cons_succ]))
      refine ChainL.call (o := ?_) (f := ?_) (args := ?_) ?_ ?_ ?_ ?_
      rotate_left 3
      (focus (simp only [List.getElem?_toArray, List.getElem?_cons_succ, List.getElem?_cons_zero]; with_reducible rfl))
      (focus rfl)
      (focus (go_simp; (constructor <;> with_reducible rfl)))
      refine (CN _).mono ?_
      rintro e w5 ⟨bb, cs, cc, rfl, KB, hcs, hbb, b5⟩
      refine ⟨_, rfl, K4.below b5, ?_⟩
      simp only [Act.put, List.setIfInBounds_toArray, List.set_cons_zero, List.set_cons_succ]
      repeat (first
        | (refine ChainL.skip (o := ?_) ?_ ?_ ?_; rotate_left; (focus (first | (simp only [List.getElem?_toArray, List.getElem?_cons_succ, List.getElem?_cons_zero]; with_reducible rfl) | (simp only [List.getElem?_toArray, List.getElem?_cons_zero]; with_reducible rfl))); (focus rfl); simp only [Act.put, List.setIfInBounds_toArray, List.set_cons_zero, List.set_cons_succ])
        | (refine ChainL.val (o := ?_) (v := ?_) ?_ ?_ ?_ ?_ ?_; rotate_left 2; (focus (first | (simp only [List.getElem?_toArray, List.getElem?_cons_succ, List.getElem?_cons_zero]; with_reducible rfl) | (simp only [List.getElem?_toArray, List.getElem?_cons_zero]; with_reducible rfl))); (focus (intro _ _ h; cases h)); (focus rfl); (focus (intro w' hI; have k1 := hI.cell 1; have k2 := hI.cell 2; have k3 := hI.cell 3; have k4 := hI.cell 4; have k0 := hI.cell 0; simp only [List.getElem?_toArray, List.getElem?_cons_zero, List.getElem?_cons_succ] at k1 k2 k3 k4 k0; go_simp <;> with_reducible rfl)); simp only [Act.put, List.setIfInBounds_toArray, List.set_cons_zero, List.set_cons_succ]))
      refine ChainL.nil ?_
      have W5 := ((hW.below ((Below.refl _ _).drew)).below b4).below b5
      have S5 := ((hS.trans (safe_below ((Below.refl _ _).drew))).trans (safe_below b4)).trans (safe_below b5)
      have Z5 : w.heap.size ≤ w5.heap.size := by have h4 := b4.size; have h5 := b5.size; simp at h4; omega
      clear hK hW hS
      go_wp2
      go_loopw [41] (fun i wr => ∃ k : Nat, k ≤ n ∧ i = .int .i64 k ∧ WS w0 wr p R (L ++ be2 f ++ be2 g ++ (be1 u ++ be1 v) ++ ((numsM (a, b, c, d) n).take k).flatMap be2) ∧ Blk wr bb 3 (intCells cs).toArray ∧ Safe w wr ∧ w.heap.size ≤ wr.heap.size) (fun i _ => n - (intOf i).toNat)
      case atStart => exact ⟨0, by omega, rfl, by simpa using W5, KB, S5, Z5⟩
      case round =>
        obtain ⟨k, hk, rfl, hW, hK, hS, hZ⟩ := hrel
        by_cases hlt : k < n
        · have d1 : decide ((k : Int) < (n : Int)) = true := by simp; omega
          obtain ⟨z, hz⟩ : ∃ z, (numsM (a, b, c, d) n)[k]? = some z := ⟨_, List.getElem?_eq_getElem (by omega)⟩
          have hT : (numsM (a, b, c, d) n).take (k + 1) = (numsM (a, b, c, d) n).take k ++ [z] := by rw [List.take_add_one, hz]; rfl
          have hcell := hK.cell k
          rw [cs_get hcs hz hlt] at hcell
          have CI := wsI16 w0 wr p R _ z hW (by have := flat2_len ((numsM (a, b, c, d) n).take k); rw [List.length_take] at this; simp only [List.length_append, this]; simp [be1, be2]; omega) hR
          go_wp2_with (go_at_call 28; ((with_reducible refine (CI).mono ?_); rintro e w6 ⟨rfl, W6, sf6, sz6⟩))
          go_roundw
          case rel => exact ⟨k + 1, by omega, by go_num, by rw [hT, List.flatMap_append]; simpa using W6, sf6 _ _ _ (by decide) (by decide) (by decide) hK, hS.trans sf6, by omega⟩
          case measure => simp [intOf]; omega
        · obtain rfl : k = n := by omega
          have d1 : decide ((k : Int) < (k : Int)) = false := by simp
          go_wp2
          go_end0
          refine ⟨rfl, ?_, hS, hZ⟩
          rw [List.take_of_length_le (by omega), hcs] at hW
          simpa using hW

set_option maxRecDepth 100000 in
set_option maxHeartbeats 2000000 in
theorem putPart_1 (w0 w : World) (p R : Nat) (L : List Value) (P : Prt) (f : Int) (h : WS w0 w p R L) (hx : L.length + 16 ≤ R) (hR : R ≤ 1099511627776) (e1 : bits .and .i64 f 1 = 1) :
    Calls Try.prog 30 #[.pointer (some ⟨p, 0, none⟩), .agg (prL P).toArray, .int .i64 f] w (Went w0 w p R L (putE P f true)) := by
  obtain ⟨g, ⟨a, b, c, d⟩, mm, x, y, t, pp, qq⟩ := P
  have CF := fun W => argumentsOf_any (g, (a, b, c, d), mm, x, y, t, pp, qq) W
  have CS := fun W => shortest_any (a, b, c, d) W
  obtain ⟨n, hn2, hn4⟩ := shortN_n (a, b, c, d)
  have CN := fun W => numbersB_any (a, b, c, d) n hn4 W
  have hnl := numsM_len (a, b, c, d) n hn4
  unfold putE
  simp only [hn2, Int.toNat_natCast]
  generalize shortN (a, b, c, d) = s at *
  obtain ⟨s, s2⟩ := s
  simp only at hn2
  subst hn2
  generalize argsP (g, (a, b, c, d), mm, x, y, t, pp, qq) = uv at *
  obtain ⟨u, v⟩ := uv
  simp only [mtV, fmL, prL] at CS CF CN ⊢
  have cf1 := fun w => fieldF1 s n w
  have HR := Lib.hid hR
  have ci0 := fun w => idx0 u v w
  have ci1 := fun w => idx1 u v w
  have W0 := h.alloc (.cells #[.int .i64 g, .int .i64 a, .int .i64 b, .int .i64 c, .int .i64 d, .bool mm, .int .i64 x, .int .i64 y, .bool t, .int .i64 pp, .int .i64 qq] 36)
  have K0 := Blk.new w 36 #[.int .i64 g, .int .i64 a, .int .i64 b, .int .i64 c, .int .i64 d, .bool mm, .int .i64 x, .int .i64 y, .bool t, .int .i64 pp, .int .i64 qq]
  have Z0 : w.heap.size ≤ (w.alloc (.cells #[.int .i64 g, .int .i64 a, .int .i64 b, .int .i64 c, .int .i64 d, .bool mm, .int .i64 x, .int .i64 y, .bool t, .int .i64 pp, .int .i64 qq] 36)).heap.size := by simp
  have SX : Safe w (w.alloc (.cells #[.int .i64 g, .int .i64 a, .int .i64 b, .int .i64 c, .int .i64 d, .bool mm, .int .i64 x, .int .i64 y, .bool t, .int .i64 pp, .int .i64 qq] 36)) := safe_below ((Below.refl _ _).alloc (Nat.le_refl _) _)
  go_enter Try.func30, Try.ntmps30
  go_wp2
  generalize w.alloc (.cells #[.int .i64 g, .int .i64 a, .int .i64 b, .int .i64 c, .int .i64 d, .bool mm, .int .i64 x, .int .i64 y, .bool t, .int .i64 pp, .int .i64 qq] 36) = X0 at *
  refine wp_region_chain (fun W' => Blk W' w.heap.size 36 #[.int .i64 g, .int .i64 a, .int .i64 b, .int .i64 c, .int .i64 d, .bool mm, .int .i64 x, .int .i64 y, .bool t, .int .i64 pp, .int .i64 qq]) [(0, false), (1, false), (3, false), (4, false), (2, true), (5, true)] (by kernel_rfl) (by kernel_rfl) (K0.below ((Below.refl _ _).drew)) ?_
  repeat (first
    | (refine ChainL.skip (o := ?_) ?_ ?_ ?_; rotate_left; (focus (first | (simp only [List.getElem?_toArray, List.getElem?_cons_succ, List.getElem?_cons_zero]; with_reducible rfl) | (simp only [List.getElem?_toArray, List.getElem?_cons_zero]; with_reducible rfl))); (focus rfl); simp only [Act.put, List.setIfInBounds_toArray, List.set_cons_zero, List.set_cons_succ])
    | (refine ChainL.val (o := ?_) (v := ?_) ?_ ?_ ?_ ?_ ?_; rotate_left 2; (focus (first | (simp only [List.getElem?_toArray, List.getElem?_cons_succ, List.getElem?_cons_zero]; with_reducible rfl) | (simp only [List.getElem?_toArray, List.getElem?_cons_zero]; with_reducible rfl))); (focus (intro _ _ h; cases h)); (focus rfl); (focus (intro w' hI; have k1 := hI.cell 1; have k2 := hI.cell 2; have k3 := hI.cell 3; have k4 := hI.cell 4; have k0 := hI.cell 0; simp only [List.getElem?_toArray, List.getElem?_cons_zero, List.getElem?_cons_succ] at k1 k2 k3 k4 k0; go_simp <;> with_reducible rfl)); simp only [Act.put, List.setIfInBounds_toArray, List.set_cons_zero, List.set_cons_succ]))
  refine ChainL.call (o := ?_) (f := ?_) (args := ?_) ?_ ?_ ?_ ?_
  rotate_left 3
  (focus (simp only [List.getElem?_toArray, List.getElem?_cons_succ, List.getElem?_cons_zero]; with_reducible rfl))
  (focus rfl)
  (focus (go_simp; (constructor <;> with_reducible rfl)))
  refine (wsU16 w0 _ p R L f (W0.below ((Below.refl _ _).drew)) (by omega) hR).mono ?_
  rintro e w1 ⟨rfl, W1, sf1, sz1⟩
  have K1 := sf1 _ _ _ (by decide) (by decide) (by decide) (K0.below ((Below.refl _ _).drew)); refine ⟨_, rfl, K1, ?_⟩
  simp only [Act.put, List.setIfInBounds_toArray, List.set_cons_zero, List.set_cons_succ]
  refine ChainL.call (o := ?_) (f := ?_) (args := ?_) ?_ ?_ ?_ ?_
  rotate_left 3
  (focus (simp only [List.getElem?_toArray, List.getElem?_cons_succ, List.getElem?_cons_zero]; with_reducible rfl))
  (focus rfl)
  (focus (go_simp; (constructor <;> with_reducible rfl)))
  refine (wsU16 w0 _ p R (L ++ be2 f) g W1 (by simp [be2]; omega) hR).mono ?_
  rintro e w2 ⟨rfl, W2, sf2, sz2⟩
  have K2 := sf2 _ _ _ (by decide) (by decide) (by decide) K1; refine ⟨_, rfl, K2, ?_⟩
  simp only [Act.put, List.setIfInBounds_toArray, List.set_cons_zero, List.set_cons_succ]
  repeat (first
    | (refine ChainL.skip (o := ?_) ?_ ?_ ?_; rotate_left; (focus (first | (simp only [List.getElem?_toArray, List.getElem?_cons_succ, List.getElem?_cons_zero]; with_reducible rfl) | (simp only [List.getElem?_toArray, List.getElem?_cons_zero]; with_reducible rfl))); (focus rfl); simp only [Act.put, List.setIfInBounds_toArray, List.set_cons_zero, List.set_cons_succ])
    | (refine ChainL.val (o := ?_) (v := ?_) ?_ ?_ ?_ ?_ ?_; rotate_left 2; (focus (first | (simp only [List.getElem?_toArray, List.getElem?_cons_succ, List.getElem?_cons_zero]; with_reducible rfl) | (simp only [List.getElem?_toArray, List.getElem?_cons_zero]; with_reducible rfl))); (focus (intro _ _ h; cases h)); (focus rfl); (focus (intro w' hI; have k1 := hI.cell 1; have k2 := hI.cell 2; have k3 := hI.cell 3; have k4 := hI.cell 4; have k0 := hI.cell 0; simp only [List.getElem?_toArray, List.getElem?_cons_zero, List.getElem?_cons_succ] at k1 k2 k3 k4 k0; go_simp <;> with_reducible rfl)); simp only [Act.put, List.setIfInBounds_toArray, List.set_cons_zero, List.set_cons_succ]))
  refine ChainL.nil ?_
  have S2 : Safe w w2 := ((safe_below ((Below.refl _ _).drew)).trans sf1).trans sf2 |> SX.trans
  have Z2 : w.heap.size ≤ w2.heap.size := by simp at sz1; omega
  clear sf1 sf2 W1 K1 K0 W0
  go_wp2_with (first | (go_at_call 57; ((with_reducible refine (CF _).mono ?_); rintro e w3 ⟨rfl, b3⟩; have W3 := W2.below b3; have K3 := K2.below b3)) | (refine wpList_load_row rfl 36 (.tmp 4) (by with_reducible rfl) w.heap.size (by rfl) 36 #[.int .i64 g, .int .i64 a, .int .i64 b, .int .i64 c, .int .i64 d, .bool mm, .int .i64 x, .int .i64 y, .bool t, .int .i64 pp, .int .i64 qq] (0, 0) _ (by exact K2) Try.underlying36 rfl prSize ?_))
  go_loopw [26] (fun i wr => ∃ k : Nat, k ≤ 2 ∧ i = .int .i64 k ∧ WS w0 wr p R (L ++ be2 f ++ be2 g ++ ak k (be2 u) (be2 v)) ∧ Blk wr w.heap.size 36 #[.int .i64 g, .int .i64 a, .int .i64 b, .int .i64 c, .int .i64 d, .bool mm, .int .i64 x, .int .i64 y, .bool t, .int .i64 pp, .int .i64 qq] ∧ Safe w wr ∧ w.heap.size ≤ wr.heap.size) (fun i _ => 2 - (intOf i).toNat)
  case atStart => exact ⟨0, by omega, rfl, by simpa [ak] using W3, K3, S2.trans (safe_below b3), Nat.le_trans Z2 b3.size⟩
  case round =>
    obtain ⟨k, hk, rfl, hW, hK, hS, hZ⟩ := hrel
    clear W2 K2 W3 K3 S2 Z2 SX
    rcases (show k = 0 ∨ k = 1 ∨ k = 2 by omega) with rfl | rfl | rfl
    · 
      have z0 : ((0 : Nat) : Int) = 0 := rfl
      have z1 : ((1 : Nat) : Int) = 1 := rfl
      have CA := wsU16 w0 wr p R (L ++ be2 f ++ be2 g ++ ak 0 (be2 u) (be2 v)) u hW (by simp [be1, be2, ak]; omega) hR
      go_wp2_with (go_at_call 55; ((with_reducible refine (CA).mono ?_); rintro e w4 ⟨rfl, hW4, sf4, sz4⟩))
      go_roundw
      case rel => exact ⟨1, by omega, rfl, by simpa [ak] using hW4, sf4 _ _ _ (by decide) (by decide) (by decide) hK, hS.trans sf4, by omega⟩
      case measure => simp [intOf]
    · 
      have z0 : ((0 : Nat) : Int) = 0 := rfl
      have z1 : ((1 : Nat) : Int) = 1 := rfl
      have CA := wsU16 w0 wr p R (L ++ be2 f ++ be2 g ++ ak 1 (be2 u) (be2 v)) v hW (by simp [be1, be2, ak]; omega) hR
      go_wp2_with (go_at_call 55; ((with_reducible refine (CA).mono ?_); rintro e w4 ⟨rfl, hW4, sf4, sz4⟩))
      go_roundw
      case rel => exact ⟨2, by omega, rfl, by simpa [ak] using hW4, sf4 _ _ _ (by decide) (by decide) (by decide) hK, hS.trans sf4, by omega⟩
      case measure => simp [intOf]
    · have hW : WS w0 wr p R (L ++ be2 f ++ be2 g ++ (be2 u ++ be2 v)) := hW
      go_wp2
      refine wp_region_chain (fun W' => Blk W' w.heap.size 36 #[.int .i64 g, .int .i64 a, .int .i64 b, .int .i64 c, .int .i64 d, .bool mm, .int .i64 x, .int .i64 y, .bool t, .int .i64 pp, .int .i64 qq]) [(0, false), (1, false), (2, false), (3, false), (8, false), (4, true), (5, false), (6, true), (7, false)] (by kernel_rfl) (by kernel_rfl) (hK.below ((Below.refl _ _).drew)) ?_
      repeat (first
        | (refine ChainL.skip (o := ?_) ?_ ?_ ?_; rotate_left; (focus (first | (simp only [List.getElem?_toArray, List.getElem?_cons_succ, List.getElem?_cons_zero]; with_reducible rfl) | (simp only [List.getElem?_toArray, List.getElem?_cons_zero]; with_reducible rfl))); (focus rfl); simp only [Act.put, List.setIfInBounds_toArray, List.set_cons_zero, List.set_cons_succ])
        | (refine ChainL.val (o := ?_) (v := ?_) ?_ ?_ ?_ ?_ ?_; rotate_left 2; (focus (first | (simp only [List.getElem?_toArray, List.getElem?_cons_succ, List.getElem?_cons_zero]; with_reducible rfl) | (simp only [List.getElem?_toArray, List.getElem?_cons_zero]; with_reducible rfl))); (focus (intro _ _ h; cases h)); (focus rfl); (focus (intro w' hI; have k1 := hI.cell 1; have k2 := hI.cell 2; have k3 := hI.cell 3; have k4 := hI.cell 4; have k0 := hI.cell 0; simp only [List.getElem?_toArray, List.getElem?_cons_zero, List.getElem?_cons_succ] at k1 k2 k3 k4 k0; go_simp <;> with_reducible rfl)); simp only [Act.put, List.setIfInBounds_toArray, List.set_cons_zero, List.set_cons_succ]))
      refine ChainL.call (o := ?_) (f := ?_) (args := ?_) ?_ ?_ ?_ ?_
      rotate_left 3
      (focus (simp only [List.getElem?_toArray, List.getElem?_cons_succ, List.getElem?_cons_zero]; with_reducible rfl))
      (focus rfl)
      (focus (go_simp; (constructor <;> with_reducible rfl)))
      refine (CS _).mono ?_
      rintro e w4 ⟨rfl, b4⟩
      have K4 := (hK.below ((Below.refl _ _).drew)).below b4; refine ⟨_, rfl, K4, ?_⟩
      simp only [Act.put, List.setIfInBounds_toArray, List.set_cons_zero, List.set_cons_succ]
      repeat (first
        | (refine ChainL.skip (o := ?_) ?_ ?_ ?_; rotate_left; (focus (first | (simp only [List.getElem?_toArray, List.getElem?_cons_succ, List.getElem?_cons_zero]; with_reducible rfl) | (simp only [List.getElem?_toArray, List.getElem?_cons_zero]; with_reducible rfl))); (focus rfl); simp only [Act.put, List.setIfInBounds_toArray, List.set_cons_zero, List.set_cons_succ])
        | (refine ChainL.val (o := ?_) (v := ?_) ?_ ?_ ?_ ?_ ?_; rotate_left 2; (focus (first | (simp only [List.getElem?_toArray, List.getElem?_cons_succ, List.getElem?_cons_zero]; with_reducible rfl) | (simp only [List.getElem?_toArray, List.getElem?_cons_zero]; with_reducible rfl))); (focus (intro _ _ h; cases h)); (focus rfl); (focus (intro w' hI; have k1 := hI.cell 1; have k2 := hI.cell 2; have k3 := hI.cell 3; have k4 := hI.cell 4; have k0 := hI.cell 0; simp only [List.getElem?_toArray, List.getElem?_cons_zero, List.getElem?_cons_succ] at k1 k2 k3 k4 k0; go_simp <;> with_reducible rfl)); simp only [Act.put, List.setIfInBounds_toArray, List.set_cons_zero, List.set_cons_succ]))
      refine ChainL.call (o := ?_) (f := ?_) (args := ?_) ?_ ?_ ?_ ?_
      rotate_left 3
      (focus (simp only [List.getElem?_toArray, List.getElem?_cons_succ, List.getElem?_cons_zero]; with_reducible rfl))
      (focus rfl)
      (focus (go_simp; (constructor <;> with_reducible rfl)))
      refine (CN _).mono ?_
      rintro e w5 ⟨bb, cs, cc, rfl, KB, hcs, hbb, b5⟩
      refine ⟨_, rfl, K4.below b5, ?_⟩
      simp only [Act.put, List.setIfInBounds_toArray, List.set_cons_zero, List.set_cons_succ]
      repeat (first
        | (refine ChainL.skip (o := ?_) ?_ ?_ ?_; rotate_left; (focus (first | (simp only [List.getElem?_toArray, List.getElem?_cons_succ, List.getElem?_cons_zero]; with_reducible rfl) | (simp only [List.getElem?_toArray, List.getElem?_cons_zero]; with_reducible rfl))); (focus rfl); simp only [Act.put, List.setIfInBounds_toArray, List.set_cons_zero, List.set_cons_succ])
        | (refine ChainL.val (o := ?_) (v := ?_) ?_ ?_ ?_ ?_ ?_; rotate_left 2; (focus (first | (simp only [List.getElem?_toArray, List.getElem?_cons_succ, List.getElem?_cons_zero]; with_reducible rfl) | (simp only [List.getElem?_toArray, List.getElem?_cons_zero]; with_reducible rfl))); (focus (intro _ _ h; cases h)); (focus rfl); (focus (intro w' hI; have k1 := hI.cell 1; have k2 := hI.cell 2; have k3 := hI.cell 3; have k4 := hI.cell 4; have k0 := hI.cell 0; simp only [List.getElem?_toArray, List.getElem?_cons_zero, List.getElem?_cons_succ] at k1 k2 k3 k4 k0; go_simp <;> with_reducible rfl)); simp only [Act.put, List.setIfInBounds_toArray, List.set_cons_zero, List.set_cons_succ]))
      refine ChainL.nil ?_
      have W5 := ((hW.below ((Below.refl _ _).drew)).below b4).below b5
      have S5 := ((hS.trans (safe_below ((Below.refl _ _).drew))).trans (safe_below b4)).trans (safe_below b5)
      have Z5 : w.heap.size ≤ w5.heap.size := by have h4 := b4.size; have h5 := b5.size; simp at h4; omega
      clear hK hW hS
      go_wp2
      go_loopw [41] (fun i wr => ∃ k : Nat, k ≤ n ∧ i = .int .i64 k ∧ WS w0 wr p R (L ++ be2 f ++ be2 g ++ (be2 u ++ be2 v) ++ ((numsM (a, b, c, d) n).take k).flatMap be2) ∧ Blk wr bb 3 (intCells cs).toArray ∧ Safe w wr ∧ w.heap.size ≤ wr.heap.size) (fun i _ => n - (intOf i).toNat)
      case atStart => exact ⟨0, by omega, rfl, by simpa using W5, KB, S5, Z5⟩
      case round =>
        obtain ⟨k, hk, rfl, hW, hK, hS, hZ⟩ := hrel
        by_cases hlt : k < n
        · have d1 : decide ((k : Int) < (n : Int)) = true := by simp; omega
          obtain ⟨z, hz⟩ : ∃ z, (numsM (a, b, c, d) n)[k]? = some z := ⟨_, List.getElem?_eq_getElem (by omega)⟩
          have hT : (numsM (a, b, c, d) n).take (k + 1) = (numsM (a, b, c, d) n).take k ++ [z] := by rw [List.take_add_one, hz]; rfl
          have hcell := hK.cell k
          rw [cs_get hcs hz hlt] at hcell
          have CI := wsI16 w0 wr p R _ z hW (by have := flat2_len ((numsM (a, b, c, d) n).take k); rw [List.length_take] at this; simp only [List.length_append, this]; simp [be1, be2]; omega) hR
          go_wp2_with (go_at_call 28; ((with_reducible refine (CI).mono ?_); rintro e w6 ⟨rfl, W6, sf6, sz6⟩))
          go_roundw
          case rel => exact ⟨k + 1, by omega, by go_num, by rw [hT, List.flatMap_append]; simpa using W6, sf6 _ _ _ (by decide) (by decide) (by decide) hK, hS.trans sf6, by omega⟩
          case measure => simp [intOf]; omega
        · obtain rfl : k = n := by omega
          have d1 : decide ((k : Int) < (k : Int)) = false := by simp
          go_wp2
          go_end0
          refine ⟨rfl, ?_, hS, hZ⟩
          rw [List.take_of_length_le (by omega), hcs] at hW
          simpa using hW

theorem putPart_any (w0 w : World) (p R : Nat) (L : List Value) (P : Prt) (f : Int) (wd : Bool) (h : WS w0 w p R L) (hx : L.length + 16 ≤ R) (hR : R ≤ 1099511627776) (e1 : bits .and .i64 f 1 = if wd then 1 else 0) :
    Calls Try.prog 30 #[.pointer (some ⟨p, 0, none⟩), .agg (prL P).toArray, .int .i64 f] w (Went w0 w p R L (putE P f wd)) := by
  cases wd
  · exact putPart_0 w0 w p R L P f h hx hR e1
  · exact putPart_1 w0 w p R L P f h hx hR e1
theorem putE_len (P : Prt) (f : Int) (wd : Bool) : (putE P f wd).length ≤ 16 := by
  obtain ⟨n, hn2, hn4⟩ := shortN_n P.2.1
  have h1 := numsM_len P.2.1 n hn4
  have h2 := flat2_len (numsM P.2.1 n)
  unfold putE
  rw [hn2, Int.toNat_natCast, List.length_append, List.length_append, List.length_append, h2, h1]
  cases wd <;> simp [be1, be2] <;> omega
end Go.Proofs.Ytekailhghjideaa

namespace Go.Proofs.Ytekailhghjideaa
open Go Go.RowKit
set_option linter.unusedVariables false
set_option linter.unusedSimpArgs false

theorem idxP_any {α : Type} (p : α → Bool) : ∀ L : List α, decide (idxP p L ≥ 0) = L.any p
  | [] => rfl
  | x :: L => by
    have e := idxP_any p L
    unfold idxP
    rw [List.any_cons]
    cases p x
    · rw [if_neg (by simp), Bool.false_or, ← e]
      by_cases h : idxP p L < 0
      · rw [if_pos h]; rw [decide_eq_false (by omega), decide_eq_false (by omega)]
      · rw [if_neg h]; rw [decide_eq_true (by omega), decide_eq_true (by omega)]
    · rfl
set_option maxRecDepth 100000 in
set_option maxHeartbeats 1000000 in
theorem enc1_any (P : Prt) (w : World) : Calls Try.prog 26 #[.agg (prL P).toArray] w fun e w' => e = .returned (.bool (!mayP P)) ∧ Below w.heap.size w w' := by
  have CP := fun W => pmay_any P W
  obtain ⟨r, hr⟩ : ∃ r, mayP P = r := ⟨_, rfl⟩
  rw [hr] at CP ⊢
  clear hr
  obtain ⟨g, ⟨a, b, c, d⟩, mm, x, y, t, pp, qq⟩ := P
  simp only [prL] at CP ⊢
  have B0 : Below w.heap.size w (w.alloc (.cells #[.int .i64 g, .int .i64 a, .int .i64 b, .int .i64 c, .int .i64 d, .bool mm, .int .i64 x, .int .i64 y, .bool t, .int .i64 pp, .int .i64 qq] 36)) := (Below.refl _ _).alloc (Nat.le_refl _) _
  have KP := Blk.new w 36 #[.int .i64 g, .int .i64 a, .int .i64 b, .int .i64 c, .int .i64 d, .bool mm, .int .i64 x, .int .i64 y, .bool t, .int .i64 pp, .int .i64 qq]
  go_enter Try.func26, Try.ntmps26
  go_wp2_with (first | (refine wpList_load_row rfl 36 (.tmp 1) (by with_reducible rfl) w.heap.size (by rfl) 36 #[.int .i64 g, .int .i64 a, .int .i64 b, .int .i64 c, .int .i64 d, .bool mm, .int .i64 x, .int .i64 y, .bool t, .int .i64 pp, .int .i64 qq] (0, 0) _ (by exact KP) Try.underlying36 rfl prSize ?_) | (go_at_call 13; ((with_reducible refine (CP _).mono ?_); rintro e w1 ⟨rfl, b1⟩)))
  go_ret
  exact ⟨rfl, B0.trans (b1.mono B0.size)⟩
set_option maxRecDepth 100000 in
set_option maxHeartbeats 1000000 in
theorem idxPart_any (g : FuncId) (lb : Array Value) (p : Prt → Bool) (B : Nat) (A : Option Addr) (c : Nat) (L : List (Prt)) (w : World) (hB : B ≤ w.heap.size) (hL : Lists w B A (L.flatMap prL)) (hn : L.length ≤ 1099511627776)
    (eg : ∀ args w, (callFunc g args).run Try.prog w = .ok (.enter g args) w)
    (hp : ∀ (W : World) (x : Prt), x ∈ L → Below w.heap.size w W → Calls Try.prog g (#[.agg (prL x).toArray] ++ lb) W fun e w' => e = .returned (.bool (p x)) ∧ Below W.heap.size W w') :
    Calls Try.prog 52 #[.slice A L.length c, .func (.func g) #[] lb] w fun e w' => e = .returned (.int .i64 (idxP p L)) ∧ Below w.heap.size w w' := by
  have HL := Lib.hid hL
  have HP := Lib.hid hp
  clear hL hp
  obtain ⟨n, hnn⟩ : ∃ n, n = L.length := ⟨_, rfl⟩
  rw [← hnn] at hn ⊢
  have HN := Lib.hid hnn
  clear hnn
  go_enter Try.func52, Try.ntmps52
  go_wp2
  go_loopw [8] (fun i wr => ∃ k : Nat, k ≤ n ∧ i = .int .i64 k ∧ Hid ((L.take k).any p = false) ∧ Below w.heap.size w wr) (fun i _ => n - (intOf i).toNat)
  case atStart => exact ⟨0, Nat.zero_le _, rfl, Lib.hid rfl, Below.refl _ _⟩
  case round =>
    obtain ⟨k, hk, rfl, HK, hb⟩ := hrel
    by_cases hlt : k < n
    · have d1 : decide ((k : Int) < (n : Int)) = true := by simp; omega
      obtain ⟨x, hx⟩ : ∃ x, L[k]? = some x := ⟨L[k]'(by rw [← HN.out]; exact hlt), List.getElem?_eq_getElem _⟩
      obtain ⟨b, o, hA, hbl, hcl⟩ := lists_flat prLen (by decide) HL.out hx
      subst hA
      have g0 := Lib.hid (range_below hcl (Nat.lt_of_lt_of_le hbl hB) hb)
      have C := HP.out wr x (List.mem_of_getElem? hx) hb
      have HX := Lib.hid hx
      clear hcl hx
      cases ht : p x
      · rw [ht] at C
        have HT := Lib.hid (take_any_no HX.out HK.out ht)
        clear ht
        go_wp2_with (first | (refine wpList_load_mid rfl 36 _ (by with_reducible rfl) b (o + k * 11) (by rfl) (prL x) _ g0.out Try.underlying36 rfl (by rw [prLen]; kernel_rfl) ?_) | (go_at_fn g; ((with_reducible refine (C).mono ?_); rintro e w1 ⟨rfl, b1⟩)))
        go_roundw
        case rel => exact ⟨k + 1, by omega, by go_num, HT, hb.trans (b1.mono hb.size)⟩
        case measure => simp [intOf]; omega
      · rw [ht] at C
        have HT := Lib.hid (idxP_at HX.out HK.out ht)
        clear ht
        go_wp2_with (first | (refine wpList_load_mid rfl 36 _ (by with_reducible rfl) b (o + k * 11) (by rfl) (prL x) _ g0.out Try.underlying36 rfl (by rw [prLen]; kernel_rfl) ?_) | (go_at_fn g; ((with_reducible refine (C).mono ?_); rintro e w1 ⟨rfl, b1⟩)))
        go_ret
        exact ⟨by rw [HT.out]; rfl, hb.trans (b1.mono hb.size)⟩
    · have d1 : decide ((k : Int) < (n : Int)) = false := by simp; omega
      have HT := Lib.hid (idxP_none (p := p) (show L.any p = false by have := HK.out; rwa [List.take_of_length_le (by have := HN.out; omega)] at this))
      go_wp2
      go_ret
      exact ⟨by rw [HT.out]; rfl, hb⟩

set_option maxRecDepth 100000 in
theorem hasPart_any (B : Nat) (A : Option Addr) (c : Nat) (L : List Prt) (w : World) (hB : B ≤ w.heap.size) (hL : Lists w B A (L.flatMap prL)) (hn : L.length ≤ 1099511627776) :
    Calls Try.prog 25 #[.slice A L.length c, .func (.func 26) #[] #[]] w fun e w' => e = .returned (.bool (!L.all mayP)) ∧ Below w.heap.size w w' := by
  have C := idxPart_any 26 #[] (fun p => !mayP p) B A c L w hB hL hn (fun _ _ => rfl) (fun W x _ _ => enc1_any x W)
  have e := idxP_any (fun p => !mayP p) L
  have e2 : L.any (fun p => !mayP p) = !L.all mayP := by rw [List.not_all_eq_any_not]
  rw [e2] at e
  rw [← e]
  generalize idxP (fun p => !mayP p) L = k at *
  generalize L.length = n at *
  clear hL hn e e2
  go_enter Try.func25, Try.ntmps25
  go_wp2_with (go_at_call 52; ((with_reducible refine (C).mono ?_); rintro e w1 ⟨rfl, b1⟩))
  go_ret
  exact ⟨rfl, b1⟩
end Go.Proofs.Ytekailhghjideaa

namespace Go.Proofs.Ytekailhghjideaa
open Go Go.RowKit
set_option linter.unusedVariables false
set_option linter.unusedSimpArgs false

def z8l : List Value := List.replicate 8 (.int .u8 0)
theorem z8l_bytes : Bytes8 z8l := fun u hu => ⟨0, by omega, (List.mem_replicate.1 hu).2⟩
theorem shortN_1 (m : Mtx) : (shortN m).1 = 0 ∨ (shortN m).1 = 8 ∨ (shortN m).1 = 64 ∨ (shortN m).1 = 128 := by
  unfold shortN
  split
  · exact .inl rfl
  · split
    · exact .inr (.inl rfl)
    · split
      · exact .inr (.inr (.inl rfl))
      · exact .inr (.inr (.inr rfl))
theorem flag_w (P : Prt) : bits .and .i64 (flagP P) 1 = if !fitsP P then 1 else 0 := by
  have h := shortN_1 P.2.1
  unfold flagP
  generalize (shortN P.2.1).1 = s at *
  cases fitsP P <;> cases P.2.2.1 <;> cases P.2.2.2.2.2.1 <;> rcases h with rfl | rfl | rfl | rfl <;> rfl
theorem flag_w32 (P : Prt) : bits .and .i64 (bits .or .i64 (flagP P) 32) 1 = if !fitsP P then 1 else 0 := by
  have h := shortN_1 P.2.1
  unfold flagP
  generalize (shortN P.2.1).1 = s at *
  cases fitsP P <;> cases P.2.2.1 <;> cases P.2.2.2.2.2.1 <;> rcases h with rfl | rfl | rfl | rfl <;> rfl
theorem make8 (w : World) : (Instr.makeSlice 22 (.int .i64 8) (.int .i64 8)).run Try.prog w = .ok (.slice (some ⟨w.heap.size, 0, none⟩) 8 8) (w.alloc (.cells z8l.toArray 5)) := by
  have h := run_make_row' (P := Try.prog) 22 5 (.int .u8 0) 1 Try.underlying22 u8Info rfl .i64 .i64 8 (by omega) (by omega) w
  rw [made_zeros] at h
  exact h
/-- A writer, and a row of bytes that is none of its own. -/
def WSk (w0 w : World) (p R k : Nat) (L : List Value) : Prop := ∃ fp, Wr w p R false L fp ∧ Below w0.heap.size w0 w ∧ (∀ b ∈ fp, w0.heap.size ≤ b) ∧ k ∉ fp ∧ Blk w k 5 z8l.toArray
theorem wskAfter {w0 w : World} {p R : Nat} {L : List Value} (h : WS w0 w p R L) : WSk w0 (w.alloc (.cells z8l.toArray 5)) p R w.heap.size L := by
  obtain ⟨fp, hW, b, hf⟩ := h
  have hlt : ∀ x ∈ fp, x < w.heap.size := fun x hx => hW.lt x hx
  exact ⟨fp, hW.only (Only.of_below ((Below.refl _ _).alloc (Nat.le_refl _) _) []) (fun _ _ h => (nomatch h)), b.alloc b.size _, hf, fun hm => Nat.lt_irrefl _ (hlt _ hm), Blk.new _ _ _⟩
theorem wskBefore {w0 w w1 : World} {p R : Nat} {L : List Value} (b0 : Below w0.heap.size w0 w) (h : WS (w.alloc (.cells z8l.toArray 5)) w1 p R L) : WSk w0 w1 p R w.heap.size L := by
  obtain ⟨fp, hW, b, hf⟩ := h
  exact ⟨fp, hW, (b0.alloc b0.size _).trans (b.mono (by have := b0.size; simp; omega)), fun x hx => by have h1 := hf x hx; have h2 := b0.size; rw [World.size_alloc] at h1; omega, fun hm => by have h1 := hf _ hm; rw [World.size_alloc] at h1; omega, (Blk.new w 5 z8l.toArray).below b⟩
theorem wskI16 (w0 w : World) (p R k : Nat) (L : List Value) (x : Int) (h : WSk w0 w p R k L) (hx : L.length + 2 ≤ R) (hR : R ≤ 1099511627776) :
    Calls Try.prog 28 #[.pointer (some ⟨p, 0, none⟩), .int .i64 x] w fun e w' => e = .returned (.pointer (some ⟨p, 0, none⟩)) ∧ WSk w0 w' p R k (L ++ be2 x) := by
  obtain ⟨fp, hW, b, hf, hk, K⟩ := h
  refine (wI16_any p R false L fp x w hW hR).mono fun e w' ⟨he, fp', h1, h2, h3⟩ => ⟨he, fp', ?_, b.trans (h2.to_below b.size hf), fun y hy => ?_, fun hm => ?_, K.only h2 hk⟩
  · have e1 : putF R false L (be2 x) = false := by unfold putF; simp [be2]; exact hx
    rw [e1] at h1
    unfold putL at h1
    rw [e1, if_neg (by simp)] at h1
    exact h1
  · rcases h3 y hy with h | h
    · exact hf y h
    · have := b.size; omega
  · rcases h3 _ hm with h | h
    · exact hk h
    · have := K.lt; omega
theorem wskZ8 (w0 w : World) (p R k : Nat) (L : List Value) (h : WSk w0 w p R k L) (hx : L.length + 8 ≤ R) (hR : R ≤ 1099511627776) :
    Calls Try.prog 29 #[.pointer (some ⟨p, 0, none⟩), .slice (some ⟨k, 0, none⟩) 8 8] w (Wrote w0 w p R L z8l) := by
  obtain ⟨fp, hW, b, hf, hk, K⟩ := h
  have hp : k ≠ p := fun e => hk (by
    obtain ⟨D, G, dv, gv, _, _, _, _, _, _, _, rfl⟩ := hW
    rw [e]
    exact List.mem_cons_self ..)
  obtain ⟨D, G, dv, gv, h1, h2, h3, h4, h5, h6, h7, h8⟩ := id hW
  have C := data_any p R false L fp (some ⟨k, 0, none⟩) 8 8 _ z8l w hW hR (lists_blk K) (by simp [z8l]) (Nat.le_refl _) z8l_bytes (fun a ha _ => by cases ha; exact hp)
  refine C.mono fun e w' ⟨he, fp', h1, h2, h3⟩ => ⟨he, ⟨fp', ?_, b.trans (h2.to_below b.size hf), fun y hy => ?_⟩, wr_safe hW h2, h2.size⟩
  · have e1 : putF R false L z8l = false := by unfold putF; simp [z8l]; exact hx
    rw [e1] at h1
    unfold putL at h1
    rw [e1, if_neg (by simp)] at h1
    exact h1
  · rcases h3 y hy with h | h
    · exact hf y h
    · have := b.size; omega
/-- The parts but the last. -/
def bodyE (Ps : List Prt) : List Value := Ps.flatMap fun P => putE P (bits .or .i64 (flagP P) 32) (!fitsP P)
theorem bodyE_len : ∀ Ps : List Prt, (bodyE Ps).length ≤ 16 * Ps.length
  | [] => by simp [bodyE]
  | P :: Ps => by
    have h := bodyE_len Ps
    have h2 := putE_len P (bits .or .i64 (flagP P) 32) (!fitsP P)
    unfold bodyE at h ⊢
    rw [List.flatMap_cons, List.length_append, List.length_cons]
    omega
/-- The bytes of a composite glyph. -/
def encE (Ps : List Prt) (P : Prt) : List Value := be2 (-1) ++ z8l ++ bodyE Ps ++ putE P (flagP P) (!fitsP P)
end Go.Proofs.Ytekailhghjideaa
