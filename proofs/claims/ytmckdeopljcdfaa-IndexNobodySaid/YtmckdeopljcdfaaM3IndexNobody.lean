/- Part 4 of the proof: IxA, Bytes2, Copy, Wr5, Ws, Flat. -/
import Derived.Deep.OwnRows
import Derived.Laws.CopyOwn
import Derived.Deep.RegionHeld3
import Derived.Outline
import Derived.Deep.MidRow
import Derived.Laws.ResultCell
import Derived.Laws.Rows
import Derived.Laws.Tables
import Derived.Test.YtmckdeopljcdfaaM2IndexNobody

namespace Go.Proofs.Ytmckdeopljcdfaa
open Go Go.RowKit
set_option linter.unusedVariables false
set_option linter.unusedSimpArgs false

theorem slice_ok (A : Option Addr) (n c a b : Nat) (h1 : a ≤ b) (h2 : b ≤ c) (w : World) : (Instr.sliceAt 22 (.slice A n c) (some (.int .i64 (a : Nat))) (some (.int .i64 (b : Nat))) none).run Try.prog w = .ok (.slice (if c = a then A else A.map (·.add a)) (b - a) (c - a)) w := by
  have hu := Try.underlying22
  have hz := Try.sizeOf5
  have i1 : (0 : Int) ≤ (b : Int) := by omega
  have i2 : (b : Int) ≤ (c : Int) := by omega
  have i3 : (0 : Int) ≤ (a : Int) := by omega
  have i4 : (a : Int) ≤ (b : Int) := by omega
  simp [Instr.sliceAt, Instr.slice, Instr.sliceBounds, Instr.sliceBound, run_underlying hu, Sem.run_bind, Sem.run_pure, Result.andThen, asIntOf, hz, i1, i3, h1, h2]
theorem lists_cut {w : World} {B : Nat} {A : Option Addr} {D : List Value} (h : Lists w B A D) (a b c : Nat) (h1 : a ≤ b) (h2 : b ≤ c) : Lists w B (if c = a then A else A.map (·.add a)) ((D.drop a).take (b - a)) := by
  by_cases hc : c = a
  · rw [if_pos hc, show b - a = 0 by omega, List.take_zero]
    exact ⟨fun _ => rfl, fun _ _ j u hu => by simp at hu, fun _ _ hx => absurd rfl hx⟩
  · rw [if_neg hc]
    exact lists_part h a (b - a)
/-- An Index as it lies: its offsets, its bytes, how many it has. -/
structure IxAt (w : World) (p B : Nat) (os : List Nat) (D : List Value) (size : Int) : Prop where
  low : p < B
  out : ∃ Ao co Ad cd, Blk w p 50 #[.slice Ao os.length co, .slice Ad D.length cd, .int .i64 size] ∧ Lists w B Ao (intCells (os.map Int.ofNat)) ∧ Lists w B Ad D ∧ D.length ≤ cd ∧ Bytes8 D ∧ D.length ≤ 140737488355328
theorem IxAt.below {w w1 : World} {p B : Nat} {os : List Nat} {D : List Value} {size : Int} (h : IxAt w p B os D size) (hb : Below B w w1) : IxAt w1 p B os D size := by
  obtain ⟨hp, Ao, co, Ad, cd, h1, h2, h3, h4⟩ := h
  exact ⟨hp, Ao, co, Ad, cd, (hb.block p hp).trans h1, h2.below hb, h3.below hb, h4⟩
theorem IxAt.more {w : World} {p B B1 : Nat} {os : List Nat} {D : List Value} {size : Int} (h : IxAt w p B os D size) (hB : B ≤ B1) : IxAt w p B1 os D size := by
  obtain ⟨hp, Ao, co, Ad, cd, h1, h2, h3, h4⟩ := h
  exact ⟨Nat.lt_of_lt_of_le hp hB, Ao, co, Ad, cd, h1, h2.more hB, h3.more hB, h4⟩
set_option maxRecDepth 100000 in
theorem ixlen_nil (w : World) : Calls Try.prog 16 #[.pointer none] w fun e w' => e = .returned (.int .i64 0) ∧ w' = w := by
  go_enter Try.func16, Try.ntmps16
  go_wp2
  go_ret
  exact ⟨rfl, rfl⟩
set_option maxRecDepth 100000 in
theorem ixsize_nil (w : World) : Calls Try.prog 17 #[.pointer none] w fun e w' => e = .returned (.int .i64 0) ∧ w' = w := by
  go_enter Try.func17, Try.ntmps17
  go_wp2
  go_ret
  exact ⟨rfl, rfl⟩
set_option maxRecDepth 100000 in
theorem ixat_nil (i : Int) (w : World) : Calls Try.prog 15 #[.pointer none, .int .i64 i] w fun e w' => e = .returned (.tuple #[.slice none 0 0, .int .i64 6]) ∧ w' = w := by
  go_enter Try.func15, Try.ntmps15
  go_wp2
  first | (go_ret2; exact ⟨rfl, rfl⟩) | exact bodyPost_ret (v := .tuple #[.slice none 0 0, .int .i64 6]) (by simp [results, Try.results15, go_sem]) rfl ⟨rfl, rfl⟩
set_option maxRecDepth 100000 in
theorem ixlen_any (p B : Nat) (os : List Nat) (D : List Value) (size : Int) (w : World) (h : IxAt w p B os D size) (hn : os.length ≤ 4611686018427387904) : Calls Try.prog 16 #[.pointer (some ⟨p, 0, none⟩)] w fun e w' => e = .returned (.int .i64 ((os.length - 1 : Nat) : Int)) ∧ w' = w := by
  obtain ⟨hp, Ao, co, Ad, cd, h1, _⟩ := h
  have k0 := h1.cell 0
  have hl := h1.lt
  simp only [List.getElem?_toArray, List.getElem?_cons_zero] at k0
  generalize os.length = n at *
  clear h1
  cases n with
  | zero =>
    go_enter Try.func16, Try.ntmps16
    go_wp2
    go_ret
    exact ⟨rfl, rfl⟩
  | succ n =>
    have hw : IntKind.i64.wrap (((n + 1 : Nat) : Int) - 1) = (n : Int) := by rw [IntWalk.i64_in _ (by omega)]; omega
    have hw1 : IntKind.i64.wrap ((n : Int) + 1 - 1) = (n : Int) := by rw [IntWalk.i64_in _ (by omega)]; omega
    have hw2 : wrap64 ((n : Int) + 1 - 1) = (n : Int) := by unfold wrap64; omega
    have hm : ¬ (n : Int) < 0 := by omega
    go_enter Try.func16, Try.ntmps16
    go_wp2
    go_ret
    exact ⟨by first | rfl | (simp; done) | (simp; omega), rfl⟩
set_option maxRecDepth 100000 in
theorem ixsize_any (p B : Nat) (os : List Nat) (D : List Value) (size : Int) (w : World) (h : IxAt w p B os D size) : Calls Try.prog 17 #[.pointer (some ⟨p, 0, none⟩)] w fun e w' => e = .returned (.int .i64 size) ∧ w' = w := by
  obtain ⟨hp, Ao, co, Ad, cd, h1, _⟩ := h
  have k2 := h1.cell 2
  have hl := h1.lt
  simp only [List.getElem?_toArray, List.getElem?_cons_zero, List.getElem?_cons_succ] at k2
  go_enter Try.func17, Try.ntmps17
  go_wp2
  go_ret
  exact ⟨rfl, rfl⟩
set_option maxRecDepth 100000 in
theorem ixat_none (p B : Nat) (os : List Nat) (D : List Value) (size i : Int) (w : World) (h : IxAt w p B os D size) (hn : os.length ≤ 4611686018427387904) (hi : i < 0 ∨ ((os.length - 1 : Nat) : Int) ≤ i) : Calls Try.prog 15 #[.pointer (some ⟨p, 0, none⟩), .int .i64 i] w fun e w' => e = .returned (.tuple #[.slice none 0 0, .int .i64 4]) ∧ w' = w := by
  have CL := fun W (hW : W = w) => ixlen_any p B os D size W (by rw [hW]; exact h) hn
  generalize os.length - 1 = n at *
  clear h
  by_cases h0 : i < 0
  · go_enter Try.func15, Try.ntmps15
    go_wp2
    first | (go_ret2; exact ⟨rfl, rfl⟩) | exact bodyPost_ret (v := .tuple #[.slice none 0 0, .int .i64 4]) (by simp [results, Try.results15, go_sem]) rfl ⟨rfl, rfl⟩
  · have h1 : (n : Int) ≤ i := by omega
    go_enter Try.func15, Try.ntmps15
    go_wp2_with (go_at_call 16; ((with_reducible refine (CL _ rfl).mono ?_); rintro e w1 ⟨rfl, rfl⟩))
    first | (go_ret2; exact ⟨rfl, rfl⟩) | exact bodyPost_ret (v := .tuple #[.slice none 0 0, .int .i64 4]) (by simp [results, Try.results15, go_sem]) rfl ⟨rfl, rfl⟩
/-- What At answers: a copy. -/
def GotB (w : World) (E : List Value) (e : Ending) (w' : World) : Prop := ∃ A c, e = .returned (.tuple #[.slice A E.length c, .int .i64 0]) ∧ Hid (Lists w' w'.heap.size A E) ∧ Below w.heap.size w w'
set_option maxRecDepth 100000 in
set_option maxHeartbeats 1000000 in
theorem ixat_any (p B : Nat) (os : List Nat) (D : List Value) (size : Int) (i a b0 : Nat) (w : World) (h : IxAt w p B os D size) (hB : B ≤ w.heap.size) (hn : os.length ≤ 4611686018427387904) (ha : os[i]? = some a) (hb : os[i + 1]? = some b0) (h1 : a ≤ b0) (h2 : b0 ≤ D.length) :
    Calls Try.prog 15 #[.pointer (some ⟨p, 0, none⟩), .int .i64 (i : Nat)] w (GotB w ((D.drop a).take (b0 - a))) := by
  have CL := fun W (hW : W = w) => ixlen_any p B os D size W (by rw [hW]; exact h) hn
  have hi : i + 1 < os.length := (List.getElem?_eq_some_iff.1 hb).1
  obtain ⟨hp, Ao, co, Ad, cd, hk, h4, h5, h6, h8, h7⟩ := h
  have k0 := hk.cell 0
  have k1 := hk.cell 1
  simp only [List.getElem?_toArray, List.getElem?_cons_zero, List.getElem?_cons_succ] at k0 k1
  have hp : p < w.heap.size := hk.lt
  have e0 : (intCells (os.map Int.ofNat))[i]? = some (.int .i64 (a : Int)) := by simp [intCells, ha]
  have e1 : (intCells (os.map Int.ofNat))[i + 1]? = some (.int .i64 (b0 : Int)) := by simp [intCells, hb]
  obtain ⟨b, o, rfl, hbl, hc⟩ := h4.plain (by intro e; rw [e] at e0; simp at e0)
  have HO := Lib.hid (And.intro (hc i _ e0) (hc (i + 1) _ e1))
  have hbb : b < w.heap.size := Nat.lt_of_lt_of_le hbl hB
  have hlen : ((D.drop a).take (b0 - a)).length = b0 - a := by simp; omega
  have CC := fun W (hI : Below w.heap.size w W) => clone_any (if cd = a then Ad else Ad.map (·.add a)) (b0 - a) (cd - a) ((D.drop a).take (b0 - a)) W (((lists_cut h5 a b0 cd h1 (Nat.le_trans h2 h6)).more hB |>.below hI).more hI.size) hlen (fun u hu => h8 u (List.mem_of_mem_drop (List.mem_of_mem_take hu))) (by omega)
  have SL := fun W => slice_ok Ad D.length cd a b0 h1 (Nat.le_trans h2 h6) W
  have CC2 := fun W hI => (CC W hI)
  have HG : Hid (∀ A c w', Lists w' w'.heap.size A ((D.drop a).take (b0 - a)) → Below w.heap.size w w' → GotB w ((D.drop a).take (b0 - a)) (.returned (.tuple #[.slice A (b0 - a) c, .int .i64 0])) w') := Lib.hid fun A c w' h1 h2 => ⟨A, c, by rw [hlen], Lib.hid h1, h2⟩
  unfold GaveClone at CC2
  rw [hlen] at CC2
  generalize (D.drop a).take (b0 - a) = X at *
  generalize D.length = dl at *
  have s1 : IntKind.i64.wrap ((i : Int) + 1) = ((i + 1 : Nat) : Int) := by rw [IntWalk.i64_in _ (by omega)]; omega
  obtain ⟨n, hnn⟩ : ∃ n, os.length = n + 1 := ⟨os.length - 1, by omega⟩
  rw [hnn] at CL k0 hi hn
  have hi2 : i < n := by omega
  have hi3 : (i : Int) < (n : Int) + 1 := by omega
  have hi4 : (0 : Int) ≤ (i : Int) := by omega
  have t0 : (0 : Int) ≤ (i : Int) + 1 := by omega
  have t1 : ((i : Int) + 1).toNat = i + 1 := by omega
  clear hnn CC hk h4 h5 h8 hc e0 e1 ha hb
  rw [show n + 1 - 1 = n by omega] at CL
  go_enter Try.func15, Try.ntmps15
  go_wp2_with (go_at_call 16; ((with_reducible refine (CL _ rfl).mono ?_); rintro e w1 ⟨rfl, rfl⟩))
  refine wp_region_chain (fun W => Below w1.heap.size w1 W) [(0, false), (1, false), (2, false), (3, false), (4, false), (5, false), (6, false), (7, false), (8, false), (9, false), (10, false), (11, false), (12, false), (13, false), (14, false), (15, false), (16, false), (17, false), (18, false), (19, false), (20, true), (21, false), (22, false)] (by kernel_rfl) (by kernel_rfl) ((Below.refl _ _).drew) ?_
  repeat (first
    | (refine ChainL.skip (o := ?_) ?_ ?_ ?_; rotate_left; (focus (first | (simp only [List.getElem?_toArray, List.getElem?_cons_succ, List.getElem?_cons_zero]; with_reducible rfl) | (simp only [List.getElem?_toArray, List.getElem?_cons_zero]; with_reducible rfl))); (focus rfl); simp only [Act.put, List.setIfInBounds_toArray, List.set_cons_zero, List.set_cons_succ])
    | (refine ChainL.val (o := ?_) (v := ?_) ?_ ?_ ?_ ?_ ?_; rotate_left 2; (focus (first | (simp only [List.getElem?_toArray, List.getElem?_cons_succ, List.getElem?_cons_zero]; with_reducible rfl) | (simp only [List.getElem?_toArray, List.getElem?_cons_zero]; with_reducible rfl))); (focus (intro _ _ h; cases h)); (focus rfl); (focus (intro w' hI; have c0 := (hI.cell (p := ⟨p, 0, none⟩) hp).trans k0; have c1 := (hI.cell (p := ⟨p, 1, none⟩) hp).trans k1; have g0 := (hI.cell (p := ⟨b, o + i, none⟩) hbb).trans (HO.out.1); have g1 := (hI.cell (p := ⟨b, o + (i + 1), none⟩) hbb).trans (HO.out.2); have hq : p < w'.heap.size := Nat.lt_of_lt_of_le hp hI.size; have hq2 : b < w'.heap.size := Nat.lt_of_lt_of_le hbb hI.size; go_simp; with_reducible rfl)); simp only [Act.put, List.setIfInBounds_toArray, List.set_cons_zero, List.set_cons_succ]))
  refine ChainL.call (o := ?_) (f := ?_) (args := ?_) ?_ ?_ ?_ ?_
  rotate_left 3
  (focus (simp only [List.getElem?_toArray, List.getElem?_cons_succ, List.getElem?_cons_zero]; with_reducible rfl))
  (focus rfl)
  (focus (go_simp; (constructor <;> with_reducible rfl)))
  refine (CC2 _ ((Below.refl _ _).drew)).mono ?_
  rintro e w2 ⟨A2, c2, rfl, l2, hc2, hm2, b2, hf2⟩
  have B2 := ((Below.refl w1.heap.size w1).drew).trans (b2.mono (by simp)); refine ⟨_, rfl, B2, ?_⟩
  simp only [Act.put, List.setIfInBounds_toArray, List.set_cons_zero, List.set_cons_succ]
  repeat (first
    | (refine ChainL.skip (o := ?_) ?_ ?_ ?_; rotate_left; (focus (first | (simp only [List.getElem?_toArray, List.getElem?_cons_succ, List.getElem?_cons_zero]; with_reducible rfl) | (simp only [List.getElem?_toArray, List.getElem?_cons_zero]; with_reducible rfl))); (focus rfl); simp only [Act.put, List.setIfInBounds_toArray, List.set_cons_zero, List.set_cons_succ])
    | (refine ChainL.val (o := ?_) (v := ?_) ?_ ?_ ?_ ?_ ?_; rotate_left 2; (focus (first | (simp only [List.getElem?_toArray, List.getElem?_cons_succ, List.getElem?_cons_zero]; with_reducible rfl) | (simp only [List.getElem?_toArray, List.getElem?_cons_zero]; with_reducible rfl))); (focus (intro _ _ h; cases h)); (focus rfl); (focus (intro w' hI; have c0 := (hI.cell (p := ⟨p, 0, none⟩) hp).trans k0; have c1 := (hI.cell (p := ⟨p, 1, none⟩) hp).trans k1; have g0 := (hI.cell (p := ⟨b, o + i, none⟩) hbb).trans (HO.out.1); have g1 := (hI.cell (p := ⟨b, o + (i + 1), none⟩) hbb).trans (HO.out.2); have hq : p < w'.heap.size := Nat.lt_of_lt_of_le hp hI.size; have hq2 : b < w'.heap.size := Nat.lt_of_lt_of_le hbb hI.size; go_simp; with_reducible rfl)); simp only [Act.put, List.setIfInBounds_toArray, List.set_cons_zero, List.set_cons_succ]))
  refine ChainL.nil ?_
  go_wp2
  all_goals exact bodyPost_ret (v := .tuple #[.slice A2 (b0 - a) c2, .int .i64 0]) (by simp [results, Try.results15, go_sem]) rfl (HG.out A2 c2 _ l2 B2)
end Go.Proofs.Ytmckdeopljcdfaa

namespace Go.Proofs.Ytmckdeopljcdfaa
open Go Go.RowKit

/-- What stands ahead of the data behind the last gap; where that data begins. -/
def preE (D : List Value) : Nat → List (Nat × Nat) → List Value
  | _, [] => []
  | i, (a, z) :: G => (D.drop i).take (a - i) ++ List.replicate z zero8 ++ preE D a G
def lastA : Nat → List (Nat × Nat) → Nat
  | i, [] => i
  | _, (a, _) :: G => lastA a G

theorem expand_pre (D : List Value) : ∀ (G : List (Nat × Nat)) (i : Nat), expand D i G = preE D i G ++ D.drop (lastA i G)
  | [], i => rfl
  | (a, z) :: G, i => by simp only [expand, preE, lastA, expand_pre D G a, List.append_assoc]
theorem preE_snoc (D : List Value) (a z : Nat) : ∀ (G : List (Nat × Nat)) (i : Nat), preE D i (G ++ [(a, z)]) = preE D i G ++ ((D.drop (lastA i G)).take (a - lastA i G) ++ List.replicate z zero8)
  | [], i => by simp [preE, lastA]
  | (b, y) :: G, i => by simp only [List.cons_append, preE, lastA, preE_snoc D a z G b, List.append_assoc]
theorem lastA_snoc (a z : Nat) : ∀ (G : List (Nat × Nat)) (i : Nat), lastA i (G ++ [(a, z)]) = a
  | [], i => rfl
  | (b, y) :: G, i => by simp only [List.cons_append, lastA, lastA_snoc a z G b]
theorem lastA_le : ∀ (G : List (Nat × Nat)) {i n : Nat}, GapsOk i G n → lastA i G ≤ n
  | [], _, _, h => h
  | (_, _) :: G, _, _, h => lastA_le G h.2.2
theorem gap_at : ∀ (G : List (Nat × Nat)) (i n k a z : Nat), GapsOk i G n → G[k]? = some (a, z) → lastA i (G.take k) ≤ a ∧ a ≤ n ∧ 1 ≤ z
  | [], _, _, k, _, _, _, h => by simp at h
  | (b, y) :: G, i, n, 0, a, z, hg, h => by
    simp only [List.getElem?_cons_zero, Option.some.injEq, Prod.mk.injEq] at h
    obtain ⟨rfl, rfl⟩ := h
    exact ⟨hg.1, hg.2.2.le, hg.2.1⟩
  | (b, y) :: G, i, n, k + 1, a, z, hg, h => by
    simp only [List.take_succ_cons, lastA]
    exact gap_at G b n k a z hg.2.2 (by simpa using h)
theorem take_snoc {G : List (Nat × Nat)} {k a z : Nat} (h : G[k]? = some (a, z)) : G.take (k + 1) = G.take k ++ [(a, z)] := by
  rw [List.take_add_one, h]; rfl
theorem pre_prefix (D : List Value) : ∀ (G : List (Nat × Nat)) (i k : Nat), (preE D i (G.take k)).length ≤ (preE D i G).length
  | [], i, k => by simp
  | (a, z) :: G, i, 0 => by simp [preE]
  | (a, z) :: G, i, k + 1 => by
    have := pre_prefix D G a k
    simp only [List.take_succ_cons, preE, List.length_append]
    omega
theorem pre_len_le (D : List Value) (G : List (Nat × Nat)) (k : Nat) : (preE D 0 (G.take k)).length ≤ (expand D 0 G).length := by
  rw [expand_pre, List.length_append]
  have := pre_prefix D G 0 k
  omega

/-- The row behind k gaps: n bytes in all. -/
def rowAt (D : List Value) (G : List (Nat × Nat)) (n k : Nat) : List Value := preE D 0 (G.take k) ++ List.replicate (n - (preE D 0 (G.take k)).length) zero8
theorem rowAt_len (D : List Value) (G : List (Nat × Nat)) (n k : Nat) (h : (preE D 0 (G.take k)).length ≤ n) : (rowAt D G n k).length = n := by
  unfold rowAt; rw [List.length_append, List.length_replicate]; omega
theorem splice_row (P cs : List Value) (n : Nat) (h : P.length + cs.length ≤ n) : splice (P ++ List.replicate (n - P.length) zero8) P.length cs = P ++ cs ++ List.replicate (n - (P ++ cs).length) zero8 := by
  unfold splice
  rw [List.take_left, List.drop_append, List.drop_eq_nil_of_le (by omega), List.nil_append, List.drop_replicate, List.append_assoc, List.length_append]
  congr 3
  omega
theorem row_next (D : List Value) (G : List (Nat × Nat)) (n k a z : Nat) (hg : G[k]? = some (a, z)) (hn : (preE D 0 (G.take (k + 1))).length ≤ n) :
    splice (rowAt D G n k) (preE D 0 (G.take k)).length ((D.drop (lastA 0 (G.take k))).take (a - lastA 0 (G.take k))) = rowAt D G n (k + 1) := by
  rw [take_snoc hg, preE_snoc] at hn
  unfold rowAt
  rw [splice_row _ _ _ (by simp only [List.length_append] at hn; omega), take_snoc hg, preE_snoc]
  simp only [List.append_assoc, List.length_append, List.length_replicate] at hn ⊢
  congr 2
  rw [List.replicate_append_replicate]
  congr 1
  omega
theorem row_last (D : List Value) (G : List (Nat × Nat)) : splice (rowAt D G (expand D 0 G).length G.length) (preE D 0 G).length (D.drop (lastA 0 G)) = expand D 0 G := by
  have hl := expand_pre D G 0
  unfold rowAt
  rw [List.take_length, splice_row _ _ _ (by rw [hl, List.length_append]; omega), ← hl]
  simp
theorem made_zeros (n : Nat) : madeCells #[.int .u8 0] n = (List.replicate n zero8).toArray := by
  unfold madeCells zero8
  apply Array.ext
  · simp
  · intro i h1 h2
    simp [Nat.mod_one]

end Go.Proofs.Ytmckdeopljcdfaa

namespace Go.Proofs.Ytmckdeopljcdfaa
open Go Go.RowKit

theorem only_setRow (w : World) (g : Nat) (cs : Array Value) : Only w (w.setRow g cs) [g] :=
  ⟨rfl, rfl, rfl, by simp [World.setRow], fun b _ hn => setRow_other w g b cs (fun e => hn (by simp [e]))⟩

section
variable {P : Program} {w : World}
theorem run_copy_only (dT sT ty elem : TypeId) (hu : P.underlying dT = some (.slice elem)) (hsz : (P.info? elem).map (·.size) = some 1)
    (dp sp : Option Addr) (dLen dCap sLen sCap : Nat) (g off : Nat) (cur : List Value) (t : TypeId) (hg : w.heap[g]? = some (.cells cur.toArray t (0, 0))) (cs : List Value) (hn : cs.length = Nat.min sLen dLen)
    (hpos : 0 < cs.length → dp = some ⟨g, off, none⟩ ∧ ∃ ad, sp = some ad ∧ ∀ (j : Nat) (v : Value), cs[j]? = some v → w.cell? (ad.add j) = some v)
    (hfit : off + cs.length ≤ cur.length) (h1 : ∀ v ∈ cs, v.oneCell' = true) :
    ∃ w', (Builtin.copy_ #[dT, sT] ty #[.slice dp dLen dCap, .slice sp sLen sCap]).run P w = .ok (goInt cs.length) w' ∧ w'.heap[g]? = some (.cells (splice cur off cs).toArray t (0, 0)) ∧ Only w w' [g] := by
  by_cases h0 : cs.length = 0
  · obtain rfl : cs = [] := List.eq_nil_of_length_eq_zero h0
    exact ⟨w, run_copy_none (P := P) w dT sT ty elem dp sp dLen dCap sLen sCap hu hsz (by simpa using hn.symm), by simpa [splice] using hg, Only.refl w _⟩
  · obtain ⟨rfl, ad, rfl, hsrc⟩ := hpos (by omega)
    refine ⟨_, run_copy_row (P := P) w dT sT ty elem g off dLen dCap ad sLen sCap cur.toArray t cs hu hsz hg hn hsrc (by simpa using hfit) h1, ?_, only_setRow w g _⟩
    rw [setRow_heap w g _ _ t _ hg]
    simp [splice]

theorem step_copy_only {ops : Array Oper} {o : Oper} {a : Act} {K : Act → World → Prop} {Q : Exit → Act → World → Prop} {E : Prop} (hgd : o.guard = none) (d s : Operand) (dT sT : TypeId)
    (ho : o.op = .call { callee := .builtin .copy, args := #[d, s], argTypes := #[dT, sT] }) (elem : TypeId) (hu : P.underlying dT = some (.slice elem)) (hsz : (P.info? elem).map (·.size) = some 1)
    (dp sp : Option Addr) (dLen dCap sLen sCap : Nat) (hd : a.eval d = .slice dp dLen dCap) (hs : a.eval s = .slice sp sLen sCap)
    (g off : Nat) (cur : List Value) (t : TypeId) (hg : w.heap[g]? = some (.cells cur.toArray t (0, 0))) (cs : List Value) (hn : cs.length = Nat.min sLen dLen)
    (hpos : 0 < cs.length → dp = some ⟨g, off, none⟩ ∧ ∃ ad, sp = some ad ∧ ∀ (j : Nat) (v : Value), cs[j]? = some v → w.cell? (ad.add j) = some v)
    (hfit : off + cs.length ≤ cur.length) (h1 : ∀ v ∈ cs, v.oneCell' = true)
    (h : ∀ w', Hid (w'.heap[g]? = some (.cells (splice cur off cs).toArray t (0, 0))) → Only w w' [g] → K (a.put o.dst (goInt cs.length)) w') :
    if Region.wanted o (yielded ops a.tmps) = true then Oper.wp P o a w K Q else E := by
  rw [if_pos (by simp [Region.wanted, hgd])]
  obtain ⟨w', hrun, h2, h3⟩ := run_copy_only (P := P) dT sT o.type elem hu hsz dp sp dLen dCap sLen sCap g off cur t hg cs hn hpos hfit h1
  unfold Oper.wp
  simp [execOp, ho, resolve, invoke, builtin, hd, hs, hrun, Result.andThen]
  exact h w' h2 h3
end

end Go.Proofs.Ytmckdeopljcdfaa

namespace Go.Proofs.Ytmckdeopljcdfaa
open Go Go.RowKit

theorem addr_add_add (a : Addr) (i j : Nat) : (a.add i).add j = a.add (i + j) := by
  unfold Addr.add
  by_cases hi : i = 0
  · subst hi; simp
  · by_cases hj : j = 0
    · subst hj; simp [hi]
    · simp [hi, hj, Nat.add_assoc]

theorem u8One : (Try.prog.info? 5).map (·.size) = some 1 := by kernel_rfl

theorem wdone_full (p R : Nat) (L : List Value) (fp : List Nat) (w : World) (hW : Wr w p R true L fp) :
    Calls Try.prog 30 #[.pointer (some ⟨p, 0, none⟩)] w fun e w' => e = .returned (.tuple #[.slice none 0 0, .int .i64 2]) ∧ Below w.heap.size w w' := by
  obtain ⟨D, G, dv, gv, hb, _⟩ := hW
  have F := hb.kb; simp only [KB, CellsAt, Nat.zero_add, Nat.reduceAdd, and_true] at F
  clear hb
  go_enter Try.func30, Try.ntmps30
  go_wp2
  go_ret2
  exact ⟨rfl, Below.refl _ _⟩

/-- What is answered: the bytes, in new memory. -/
def Gave (w : World) (L : List Value) (e : Ending) (w' : World) : Prop := ∃ A c, e = .returned (.tuple #[.slice A L.length c, .int .i64 0]) ∧ w'.ownsRow w.heap.size 5 1 (.slice A L.length c) L.length L ∧ Below w.heap.size w w'

set_option maxRecDepth 100000 in
set_option maxHeartbeats 4000000 in
theorem wdone_any (p R : Nat) (L : List Value) (fp : List Nat) (w : World) (hW : Wr w p R false L fp) (hR : R ≤ 2147483647) :
    Calls Try.prog 30 #[.pointer (some ⟨p, 0, none⟩)] w fun e w' => Gave w L e w' := by
  have C0 := fun w' (hb : Below w.heap.size w w') => wlen_any p R false L fp w' (hW.only (Only.of_below hb []) (fun _ _ h => (nomatch h))) (by omega)
  obtain ⟨D, G, dv, gv, hb, hD, hG, k1, k2, k3, k4, _⟩ := hW
  have hl := expand_len D G 0 k1
  have hN : L.length ≤ 2147483647 := by omega
  have hN1 : ¬ (2147483647 < (L.length : Int)) := by omega
  have hmk := run_make_row' (P := Try.prog) 22 5 (.int .u8 0) 1 Try.underlying22 u8Info rfl .i64 .i64 L.length (by omega) (by omega)
  have hmk : ∀ w : World, (Instr.makeSlice 22 (.int .i64 (L.length : Int)) (.int .i64 (L.length : Int))).run Try.prog w = .ok (.slice (some ⟨w.heap.size, 0, none⟩) L.length L.length) (w.alloc (.cells (List.replicate L.length zero8).toArray 5)) := fun w => by rw [hmk w, made_zeros]
  have hcnt := k1.count
  have hGn : G.length ≤ 2147483647 := by rw [k3] at hN; omega
  have hDn : D.length ≤ 2147483647 := by rw [k3] at hN; omega
  obtain ⟨A0, c0, rfl, lD, hc0⟩ := own_lists hD
  obtain ⟨Ag, cg, rfl, lG, _⟩ := own_lists hG
  have hcm : c0 ≤ maxLen := by
    rcases hD.2 with ⟨h, _⟩ | ⟨g, cap, cur, h, _, _, _, h7, _⟩
    · injection h with _ _ h; omega
    · injection h with _ _ h; omega
  unfold maxLen at hcm
  have H3 := Lib.hid k3
  have HK1 := Lib.hid k1
  have HLD := Lib.hid lD
  have HLG := Lib.hid lG
  have HK2 := Lib.hid k2
  have hN0 : (0 : Int) ≤ (L.length : Int) := by omega
  clear hl hcnt k3 k1 lD lG k2 hD hG
  have F := hb.kb; simp only [KB, CellsAt, Nat.zero_add, Nat.reduceAdd, and_true] at F
  obtain ⟨N, hNN⟩ : ∃ N, N = L.length := ⟨_, rfl⟩
  rw [← hNN] at C0 hN hN1 hmk hN0
  have HN := Lib.hid hNN
  clear hNN
  go_enter Try.func30, Try.ntmps30
  go_wp2_with (first | (go_at_call 42; ((with_reducible refine (C0 _ (Below.refl _ _)).mono ?_); rintro e w1 ⟨rfl, b1⟩; have F1 := (hb.below b1).kb; simp only [KB, CellsAt, Nat.zero_add, Nat.reduceAdd, and_true] at F1)) | (go_at_call 42; ((with_reducible refine (C0 _ b1).mono ?_); rintro e w2 ⟨rfl, b2⟩; have b2 := b1.trans (b2.mono b1.size); have F2 := (hb.below b2).kb; simp only [KB, CellsAt, Nat.zero_add, Nat.reduceAdd, and_true] at F2)))
  have hg0 : (w2.alloc (.cells (List.replicate N zero8).toArray 5)).heap[w2.heap.size]? = some (.cells (rowAt D G N 0).toArray 5 (0, 0)) := by
    rw [heap_alloc_new]
    rfl
  have HG0 := Lib.hid hg0
  have hgw := b2.size
  have bm : Below w.heap.size w (w2.alloc (.cells (List.replicate N zero8).toArray 5)) := b2.alloc b2.size _
  clear hg0 F F1
  generalize hgg : w2.heap.size = g at *
  clear hgg
  go_loopw [5, 6, 28] (fun fr to ix wr => ∃ k : Nat, k ≤ G.length ∧ ix = .int .i64 k ∧ ∃ f t : Nat, fr = .int .i64 f ∧ to = .int .i64 t ∧ Hid (f = lastA 0 (G.take k) ∧ t = (preE D 0 (G.take k)).length) ∧ Below w.heap.size w wr ∧ Hid (wr.heap[g]? = some (.cells (rowAt D G N k).toArray 5 (0, 0)))) (fun _ _ ix _ => G.length - (intOf ix).toNat)
  case atStart => exact ⟨0, Nat.zero_le _, rfl, 0, 0, rfl, rfl, Lib.hid ⟨rfl, rfl⟩, bm, HG0⟩
  case round =>
    obtain ⟨k, hk, rfl, f, t, rfl, rfl, HFT, hbw, HGW⟩ := hrel
    have F3 := (hb.below hbw).kb; simp only [KB, CellsAt, Nat.zero_add, Nat.reduceAdd, and_true] at F3
    clear F2 HG0
    by_cases hlt : k < G.length
    · obtain ⟨⟨a, z⟩, hgk⟩ : ∃ q, G[k]? = some q := ⟨G[k], List.getElem?_eq_getElem hlt⟩
      obtain ⟨bg, og, hAg, hbg, hcg⟩ := HLG.out.plain (by intro e; have := gapCells_len G; rw [e] at this; simp at this; omega)
      subst hAg
      have hga := gapCells_at G k a z hgk
      have ga := (hbw.cell (p := ⟨bg, og + k * 2, none⟩) hbg).trans (hcg (k * 2) _ hga.1)
      have gz := (hbw.cell (p := ⟨bg, og + (k * 2 + 1), none⟩) hbg).trans (hcg (k * 2 + 1) _ hga.2)
      rw [← Nat.add_assoc] at gz
      clear hga hcg
      obtain ⟨q1, q2, q3⟩ := gap_at G 0 D.length k a z HK1.out hgk
      have hpre := pre_len_le D G (k + 1)
      have hpl : (preE D 0 (G.take (k + 1))).length = t + ((a - f) + z) := by
        rw [take_snoc hgk, preE_snoc, HFT.out.1, HFT.out.2]
        simp only [List.length_append, List.length_replicate, List.length_take, List.length_drop]
        omega
      rw [hpl, ← H3.out, ← HN.out] at hpre
      rw [← HFT.out.1] at q1
      have HRN := Lib.hid (row_next D G N k a z hgk (by rw [hpl]; exact hpre))
      have HPL := Lib.hid hpl
      rw [← HFT.out.1, ← HFT.out.2] at HRN
      have hrl := rowAt_len D G N k (by rw [← HFT.out.2]; omega)
      clear hpl
      have hfa : (f : Int) ≤ (a : Int) := by omega
      have haD : (a : Int) ≤ (D.length : Int) := by omega
      have hDc : (D.length : Int) ≤ (c0 : Int) := by omega
      have htN : (t : Int) ≤ (N : Int) := by omega
      have hntN : ¬ N = t := by omega
      have hf0 : (0 : Int) ≤ (f : Int) := by omega
      have ha0 : (0 : Int) ≤ (a : Int) := by omega
      have hac : (a : Int) ≤ (c0 : Int) := by omega
      have hfc : (f : Int) ≤ (c0 : Int) := by omega
      have ht0 : (0 : Int) ≤ (t : Int) := by omega
      have hgb : g < wr.heap.size := (Array.getElem?_eq_some_iff.1 HGW.out).1
      have hcl : ((D.drop f).take (a - f)).length = a - f := by simp only [List.length_take, List.length_drop]; omega
      have hc1 : ∀ v ∈ (D.drop f).take (a - f), v.oneCell' = true := fun v hv => HK2.out.one v (List.mem_of_mem_drop (List.mem_of_mem_take hv))
      have hcc : ∀ (j : Nat) (v : Value), ((D.drop f).take (a - f))[j]? = some v → D[f + j]? = some v := fun j v hv => by
        have hj : j < a - f := by
          rcases Nat.lt_or_ge j (a - f) with h | h
          · exact h
          · rw [List.getElem?_eq_none (by omega)] at hv; cases hv
        simpa [hj] using hv
      have hcn : ((D.drop f).take (a - f)).length = Nat.min (a - f) (N - t) := by rw [hcl]; show _ = min _ _; omega
      have hfit : t + ((D.drop f).take (a - f)).length ≤ (rowAt D G N k).length := by rw [hcl, hrl]; omega
      have s1 : IntKind.i64.wrap (((a - f : Nat) : Int) + (z : Int)) = ((a - f : Nat) : Int) + (z : Int) := IntWalk.i64_in _ (by omega)
      have s2 : IntKind.i64.wrap ((t : Int) + (((a - f : Nat) : Int) + (z : Int))) = (t : Int) + (((a - f : Nat) : Int) + (z : Int)) := IntWalk.i64_in _ (by omega)
      have hgp : p ≠ g := fun e => by have := hb.lt; omega
      have hbox : Blk (wr.alloc (.cells #[.int .i64 (a : Nat), .int .i64 (z : Nat)] 77)).drew wr.heap.size 77 #[.int .i64 (a : Nat), .int .i64 (z : Nat)] := Blk.new wr _ _
      have bw1 : Below w.heap.size w (wr.alloc (.cells #[.int .i64 (a : Nat), .int .i64 (z : Nat)] 77)).drew := (hbw.alloc hbw.size _).drew
      have hbp := hb.below bw1
      have HG1 : (wr.alloc (.cells #[.int .i64 (a : Nat), .int .i64 (z : Nat)] 77)).drew.heap[g]? = some (.cells (rowAt D G N k).toArray 5 (0, 0)) := (Below.heap_alloc _ _ g hgb).trans HGW.out
      have HG1 := Lib.hid HG1
      have hnext : ∀ w5, Only (wr.alloc (.cells #[.int .i64 (a : Nat), .int .i64 (z : Nat)] 77)).drew w5 [g] → Below w.heap.size w w5 := fun w5 o5 => bw1.trans (o5.to_below bw1.size (fun b hm => by simp at hm; omega))
      have HNL := Lib.hid (p := a = lastA 0 (G.take (k + 1)) ∧ t + ((a - f) + z) = (preE D 0 (G.take (k + 1))).length) ⟨by rw [take_snoc hgk, lastA_snoc], HPL.out.symm⟩
      have hld : ∀ a0, A0 = some a0 → ∀ (j : Nat) (v : Value), ((D.drop f).take (a - f))[j]? = some v → (wr.alloc (.cells #[.int .i64 (a : Nat), .int .i64 (z : Nat)] 77)).drew.cell? ((a0.add f).add j) = some v := fun a0 h0 j v hv => by
        have h1 := HLD.out.cell a0 h0 (f + j) v (hcc j v hv)
        have h2 : D ≠ [] := by intro e; subst e; have := hcc j v hv; simp at this
        rw [addr_add_add]
        exact (bw1.cell (by rw [addr_add_block]; exact HLD.out.lt a0 h0 h2)).trans h1
      have hsome : 0 < ((D.drop f).take (a - f)).length → ∃ a0, A0 = some a0 := fun h => by
        cases hA : A0 with
        | some a0 => exact ⟨a0, rfl⟩
        | none =>
          have := HLD.out.nil hA
          subst this
          simp at h
      clear hcc
      generalize (D.drop f).take (a - f) = cs at *
      have HCF : ∀ (w5 : World), Only (wr.alloc (.cells #[.int .i64 (a : Nat), .int .i64 (z : Nat)] 77)).drew w5 [g] → KB w5 [(p, [.int .i64 (R : Nat), .bool false, .slice A0 D.length c0, .slice (some ⟨bg, og, none⟩) G.length cg, .int .i64 (gapSum G : Nat)])] ∧ KB w5 [(wr.heap.size, [.int .i64 (a : Nat), .int .i64 (z : Nat)])] := fun w5 o5 =>
        ⟨(hbp.only o5 (by simpa using hgp)).kb, (hbox.only o5 (by simp; omega)).kb⟩
      clear hfit hcn
      by_cases hcf : c0 = f
      · have HZ1 := Lib.hid (show cs.length = 0 by omega)
        have hz9 : cs = [] := List.eq_nil_of_length_eq_zero HZ1.out
        obtain rfl : a = f := by omega
        obtain rfl : a = c0 := by omega
        subst hz9
        have s3 : IntKind.i64.wrap (z : Int) = (z : Int) := IntWalk.i64_in _ (by omega)
        have s4 : IntKind.i64.wrap ((t : Int) + (z : Int)) = (t : Int) + (z : Int) := IntWalk.i64_in _ (by omega)
        clear s1 s2 hcl hld hsome hcf
        go_wp2
        go_region_held3 (fun w' => w'.cell? ⟨p, 2, none⟩ = some (.slice A0 D.length a) ∧ w'.cell? ⟨wr.heap.size, 0, none⟩ = some (.int .i64 (a : Nat)) ∧ w'.cell? ⟨wr.heap.size, 1, none⟩ = some (.int .i64 (z : Nat))) (first | (refine ⟨?_, ?_, ?_⟩ <;> go_simp)) (first | (refine step_copy_only rfl (.tmp 35) (.tmp 43) 22 22 rfl 5 Try.underlying22 u8One _ _ _ _ _ _ rfl rfl g t (rowAt D G N k) 5 HG1.out [] (by show 0 = min _ _; omega) (fun h => absurd h (by simp)) (by rw [hrl]; simp; omega) hc1 ?_; intro w5 HGW5 o5; have F5 := HCF w5 o5; simp only [KB, CellsAt, Nat.zero_add, Nat.reduceAdd, and_true] at F5))
        have bw5 := hnext _ o5
        clear HCF
        go_wp2
        go_roundw
        case rel => exact ⟨k + 1, by omega, by go_num, a, t + ((a - a) + z), rfl, by simp, HNL, bw5, by rw [← HRN.out]; exact HGW5⟩
        case measure => simp [intOf]; omega
      · go_wp2
        go_region_held3 (fun w' => w'.cell? ⟨p, 2, none⟩ = some (.slice A0 D.length c0) ∧ w'.cell? ⟨wr.heap.size, 0, none⟩ = some (.int .i64 (a : Nat)) ∧ w'.cell? ⟨wr.heap.size, 1, none⟩ = some (.int .i64 (z : Nat))) (first | (refine ⟨?_, ?_, ?_⟩ <;> go_simp)) (first | (refine step_copy_only rfl (.tmp 35) (.tmp 43) 22 22 rfl 5 Try.underlying22 u8One _ _ _ _ _ _ rfl rfl g t (rowAt D G N k) 5 HG1.out cs (hcl.trans (by show _ = min _ _; omega)) (fun h => ⟨rfl, by obtain ⟨a0, h0⟩ := hsome h; exact ⟨a0.add f, by rw [h0]; rfl, hld a0 h0⟩⟩) (by rw [hrl, hcl]; omega) hc1 ?_; intro w5 HGW5 o5; have F5 := HCF w5 o5; simp only [KB, CellsAt, Nat.zero_add, Nat.reduceAdd, and_true] at F5))
        have bw5 := hnext _ o5
        clear HCF
        go_wp2
        go_roundw
        case rel => exact ⟨k + 1, by omega, by go_num, a, t + ((a - f) + z), rfl, by go_num, HNL, bw5, by rw [← HRN.out]; exact HGW5⟩
        case measure => simp [intOf]; omega
    · obtain rfl : k = G.length := by omega
      have e1 : G.take G.length = G := List.take_length
      have hft := HFT.out
      rw [e1] at hft
      have hlen := expand_pre D G 0
      rw [← H3.out] at hlen
      have hfD := lastA_le G HK1.out
      have hNL := HN.out
      rw [hlen, List.length_append, List.length_drop, ← hft.1, ← hft.2] at hNL
      rw [← hft.1] at hfD
      have hrow := row_last D G
      rw [← H3.out, ← HN.out, ← hft.1, ← hft.2] at hrow
      have HROW := Lib.hid hrow
      have hrl := rowAt_len D G N G.length (by rw [e1, ← hft.2]; omega)
      have hfD0 : (f : Int) ≤ (D.length : Int) := by omega
      have hDc : (D.length : Int) ≤ (c0 : Int) := by omega
      have hfc : (f : Int) ≤ (c0 : Int) := by omega
      have htN : (t : Int) ≤ (N : Int) := by omega
      have hf0 : (0 : Int) ≤ (f : Int) := by omega
      have ht0 : (0 : Int) ≤ (t : Int) := by omega
      have hgb : g < wr.heap.size := (Array.getElem?_eq_some_iff.1 HGW.out).1
      have hgp : p ≠ g := fun e => by have := hb.lt; omega
      have HG1 : wr.drew.heap[g]? = some (.cells (rowAt D G N G.length).toArray 5 (0, 0)) := HGW.out
      have HG1 := Lib.hid HG1
      have hbp := hb.below hbw.drew
      have hc1 : ∀ v ∈ D.drop f, v.oneCell' = true := fun v hv => HK2.out.one v (List.mem_of_mem_drop hv)
      have hcl : (D.drop f).length = D.length - f := List.length_drop
      have hfin : ∀ w5, Hid (w5.heap[g]? = some (.cells (splice (rowAt D G N G.length) t (D.drop f)).toArray 5 (0, 0))) → Only wr.drew w5 [g] → Gave w L (.returned (.tuple #[.slice (some ⟨g, 0, none⟩) N N, .int .i64 0])) w5 := fun w5 H o5 => by
        have h1 := H.out
        rw [HROW.out] at h1
        have h2 := HN.out
        subst h2
        refine ⟨some ⟨g, 0, none⟩, L.length, rfl, ⟨by simp, .inr ⟨g, L.length, L.toArray, rfl, hgw, h1, Nat.le_refl _, by unfold maxLen; omega, by simp, by simp⟩⟩, hbw.drew.trans (o5.to_below hbw.size (fun b hm => by simp at hm; omega))⟩
      have hld : ∀ a0, A0 = some a0 → ∀ (j : Nat) (v : Value), (D.drop f)[j]? = some v → wr.drew.cell? ((a0.add f).add j) = some v := fun a0 h0 j v hv => by
        rw [List.getElem?_drop] at hv
        have h1 := HLD.out.cell a0 h0 (f + j) v hv
        have h2 : D ≠ [] := by intro e; subst e; simp at hv
        rw [addr_add_add]
        exact (hbw.drew.cell (by rw [addr_add_block]; exact HLD.out.lt a0 h0 h2)).trans h1
      have hsome : 0 < (D.drop f).length → ∃ a0, A0 = some a0 := fun h => by
        cases hA : A0 with
        | some a0 => exact ⟨a0, rfl⟩
        | none =>
          have := HLD.out.nil hA
          subst this
          simp at h
      have HFIN := Lib.hid hfin
      have HRL := Lib.hid hrl
      have HNL := Lib.hid hNL
      have HCL := Lib.hid hcl
      clear hfin hrow hlen hft HROW hrl hNL hcl e1
      generalize D.drop f = cs at *
      have HCF : ∀ (w5 : World), Only wr.drew w5 [g] → KB w5 [(p, [.int .i64 (R : Nat), .bool false, .slice A0 D.length c0, .slice Ag G.length cg, .int .i64 (gapSum G : Nat)])] := fun w5 o5 => (hbp.only o5 (by simpa using hgp)).kb
      by_cases hcf : c0 = f
      · have hcs : cs = [] := List.eq_nil_of_length_eq_zero (by have := HCL.out; omega)
        obtain rfl : c0 = f := hcf
        obtain rfl : t = N := by have := HNL.out; omega
        subst hcs
        clear hld hsome
        go_wp2
        go_region_held3 (fun w' => w'.cell? ⟨p, 2, none⟩ = some (.slice A0 D.length c0)) (first | go_simp) (first | (refine step_copy_only rfl (.tmp 54) (.tmp 60) 22 22 rfl 5 Try.underlying22 u8One _ _ _ _ _ _ rfl rfl g t (rowAt D G t G.length) 5 HG1.out [] (by show 0 = min _ _; omega) (fun h => absurd h (by simp)) (by rw [HRL.out]; simp) (fun v hv => (nomatch hv)) ?_; intro w5 HGW5 o5; have F5 := HCF w5 o5; simp only [KB, CellsAt, Nat.zero_add, Nat.reduceAdd, and_true] at F5))
        go_wp2
        go_ret2
        exact HFIN.out _ HGW5 o5
      · by_cases hNt : N = t
        · have hcs : cs = [] := List.eq_nil_of_length_eq_zero (by have := HCL.out; have := HNL.out; omega)
          obtain rfl : N = t := hNt
          subst hcs
          clear hld hsome
          go_wp2
          go_region_held3 (fun w' => w'.cell? ⟨p, 2, none⟩ = some (.slice A0 D.length c0)) (first | go_simp) (first | (refine step_copy_only rfl (.tmp 54) (.tmp 60) 22 22 rfl 5 Try.underlying22 u8One _ _ _ _ _ _ rfl rfl g N (rowAt D G N G.length) 5 HG1.out [] (by show 0 = min _ _; omega) (fun h => absurd h (by simp)) (by rw [HRL.out]; simp) (fun v hv => (nomatch hv)) ?_; intro w5 HGW5 o5; have F5 := HCF w5 o5; simp only [KB, CellsAt, Nat.zero_add, Nat.reduceAdd, and_true] at F5))
          go_wp2
          go_ret2
          exact HFIN.out _ HGW5 o5
        · go_wp2
          go_region_held3 (fun w' => w'.cell? ⟨p, 2, none⟩ = some (.slice A0 D.length c0)) (first | go_simp) (first | (refine step_copy_only rfl (.tmp 54) (.tmp 60) 22 22 rfl 5 Try.underlying22 u8One _ _ _ _ _ _ rfl rfl g t (rowAt D G N G.length) 5 HG1.out cs (HCL.out.trans (by have := HNL.out; show _ = min _ _; omega)) (fun h => ⟨rfl, by obtain ⟨a0, h0⟩ := hsome h; exact ⟨a0.add f, by rw [h0]; rfl, hld a0 h0⟩⟩) (by rw [HRL.out, HCL.out]; have := HNL.out; omega) hc1 ?_; intro w5 HGW5 o5; have F5 := HCF w5 o5; simp only [KB, CellsAt, Nat.zero_add, Nat.reduceAdd, and_true] at F5))
          go_wp2
          go_ret2
          exact HFIN.out _ HGW5 o5

end Go.Proofs.Ytmckdeopljcdfaa

namespace Go.Proofs.Ytmckdeopljcdfaa
open Go Go.RowKit

/-- Blocks of other kinds than a writer's stay. -/
def Safe (w w' : World) : Prop := ∀ (q : Nat) (T : TypeId) (cs : Array Value), T ≠ 5 → T ≠ 77 → T ≠ 72 → Blk w q T cs → Blk w' q T cs
theorem wr_safe {w w' : World} {p R : Nat} {F : Bool} {L : List Value} {fp : List Nat} (h : Wr w p R F L fp) (o : Only w w' fp) : Safe w w' := by
  obtain ⟨D, G, dv, gv, hb, hd, hg, _, _, _, _, rfl⟩ := h
  intro q T cs n1 n2 n3 hq
  refine hq.only o fun hm => ?_
  rcases List.mem_cons.1 hm with rfl | hm
  · unfold Blk at hb hq
    rw [hb] at hq
    injection hq with hq
    injection hq with _ e
    exact n3 e.symm
  · rcases List.mem_append.1 hm with hm | hm
    · exact own_ne hd hq n1.symm hm
    · exact own_ne hg hq n2.symm hm

/-- A writer that was made since world w0. -/
def WS (w0 w : World) (p R : Nat) (L : List Value) : Prop := ∃ fp, Wr w p R false L fp ∧ Below w0.heap.size w0 w ∧ ∀ b ∈ fp, w0.heap.size ≤ b
theorem WS.below {w0 w w1 : World} {p R : Nat} {L : List Value} (h : WS w0 w p R L) (k : Below w.heap.size w w1) : WS w0 w1 p R L := by
  obtain ⟨fp, hW, b, hf⟩ := h
  exact ⟨fp, hW.only (Only.of_below k []) (fun _ _ h => (nomatch h)), b.trans (k.mono b.size), hf⟩
theorem WS.alloc {w0 w : World} {p R : Nat} {L : List Value} (h : WS w0 w p R L) (o : Obj) : WS w0 (w.alloc o) p R L := h.below ((Below.refl _ _).alloc (Nat.le_refl _) o)
theorem WS.old {w0 w : World} {p R : Nat} {L : List Value} (h : WS w0 w p R L) : Below w0.heap.size w0 w := h.elim fun _ h => h.2.1
def Wrote (w0 w : World) (p R : Nat) (L E : List Value) (e : Ending) (w' : World) : Prop := e = .returned (.pointer (some ⟨p, 0, none⟩)) ∧ WS w0 w' p R (L ++ E) ∧ Safe w w' ∧ w.heap.size ≤ w'.heap.size
theorem ws_put {w0 w : World} {p R : Nat} {L E : List Value} {f : FuncId} {args : Array Value} (h : WS w0 w p R L) (hx : L.length + E.length ≤ R)
    (hc : ∀ fp, Wr w p R false L fp → Calls Try.prog f args w fun e w' => e = .returned (.pointer (some ⟨p, 0, none⟩)) ∧ Put w w' p R false L fp E) :
    Calls Try.prog f args w (Wrote w0 w p R L E) := by
  obtain ⟨fp, hW, b, hf⟩ := h
  refine (hc fp hW).mono fun e w' ⟨he, fp', h1, h2, h3⟩ => ⟨he, ⟨fp', ?_, ?_, fun x hx => ?_⟩, wr_safe hW h2, h2.size⟩
  · have e1 : putF R false L E = false := by unfold putF; simp; exact hx
    rw [e1] at h1
    unfold putL at h1
    rw [e1, if_neg (by simp)] at h1
    exact h1
  · exact b.trans (h2.to_below b.size hf)
  · rcases h3 x hx with h | h
    · exact hf x h
    · have := b.size; omega
theorem wsU16 (w0 w : World) (p R : Nat) (L : List Value) (x : Int) (h : WS w0 w p R L) (hx : L.length + 2 ≤ R) (hR : R ≤ 1099511627776) :
    Calls Try.prog 27 #[.pointer (some ⟨p, 0, none⟩), .int .i64 x] w (Wrote w0 w p R L (be2 x)) := ws_put h hx fun fp hW => wU16_any p R false L fp x w hW hR
theorem own_base {w : World} {base base1 : Nat} {e : TypeId} {size n : Nat} {v : Value} {xs : List Value} (h : w.ownsRow base e size v n xs) (hb : base1 ≤ base) : w.ownsRow base1 e size v n xs :=
  ⟨h.1, h.2.imp id fun ⟨g, cap, cur, h1, h2, h3⟩ => ⟨g, cap, cur, h1, Nat.le_trans hb h2, h3⟩⟩
theorem wsDone (w0 w : World) (p R : Nat) (L : List Value) (h : WS w0 w p R L) (hR : R ≤ 2147483647) :
    Calls Try.prog 30 #[.pointer (some ⟨p, 0, none⟩)] w (Gave w0 L) := by
  obtain ⟨fp, hW, b, hf⟩ := h
  exact (wdone_any p R L fp w hW hR).mono fun e w' ⟨A, c, h1, h2, h3⟩ => ⟨A, c, h1, own_base h2 b.size, b.trans (h3.mono b.size)⟩
/-- A new writer was answered. -/
def MadeWS (w0 w : World) (R : Nat) (e : Ending) (w' : World) : Prop := ∃ p, e = .returned (.pointer (some ⟨p, 0, none⟩)) ∧ WS w0 w' p R [] ∧ Below w.heap.size w w'
theorem wsTo (w0 w : World) (R : Nat) (hb : Below w0.heap.size w0 w) : Calls Try.prog 26 #[.int .i64 (R : Nat)] w (MadeWS w0 w R) := by
  refine (to_any (R : Nat) w).mono fun e w' ⟨p, fp, h1, h2, h3, h4⟩ => ⟨p, h1, ⟨fp, h2, hb.trans (h3.mono hb.size), fun b hm => ?_⟩, h3⟩
  have := h4 b hm
  have := hb.size
  omega
theorem wsU8 (w0 w : World) (p R : Nat) (L : List Value) (x : Int) (h : WS w0 w p R L) (hx : L.length + 1 ≤ R) (hR : R ≤ 1099511627776) :
    Calls Try.prog 39 #[.pointer (some ⟨p, 0, none⟩), .int .i64 x] w (Wrote w0 w p R L (be1 x)) := ws_put h hx fun fp hW => wU8_any p R false L fp x w hW hR

end Go.Proofs.Ytmckdeopljcdfaa

namespace Go.Proofs.Ytmckdeopljcdfaa
open Go Go.RowKit
set_option linter.unusedVariables false
set_option linter.unusedSimpArgs false

theorem flat_at {α : Type} {f : α → List Value} {sz : Nat} (hf : ∀ x, (f x).length = sz) : ∀ (L : List α) (k : Nat) (x : α), L[k]? = some x → ∀ j v, (f x)[j]? = some v → (L.flatMap f)[k * sz + j]? = some v
  | [], k, x, h, j, v, hv => by simp at h
  | y :: L, 0, x, h, j, v, hv => by
    obtain rfl : y = x := by simpa using h
    have hj := (List.getElem?_eq_some_iff.1 hv).1
    rw [List.flatMap_cons, Nat.zero_mul, Nat.zero_add, List.getElem?_append_left hj]
    exact hv
  | y :: L, k + 1, x, h, j, v, hv => by
    have := flat_at hf L k x (by simpa using h) j v hv
    rw [List.flatMap_cons, List.getElem?_append_right (by rw [hf, Nat.add_mul]; omega), hf, show (k + 1) * sz + j - sz = k * sz + j by rw [Nat.add_mul]; omega]
    exact this
theorem flat_len {α : Type} {f : α → List Value} {sz : Nat} (hf : ∀ x, (f x).length = sz) : ∀ L : List α, (L.flatMap f).length = L.length * sz
  | [] => by simp
  | x :: L => by rw [List.flatMap_cons, List.length_append, hf, flat_len hf L, List.length_cons, Nat.add_mul, Nat.one_mul, Nat.add_comm]
theorem lists_flat {α : Type} {f : α → List Value} {sz : Nat} (hf : ∀ x, (f x).length = sz) (hs : 0 < sz) {w : World} {B : Nat} {A : Option Addr} {L : List α} (h : Lists w B A (L.flatMap f)) {k : Nat} {x : α} (hk : L[k]? = some x) :
    ∃ b o, A = some ⟨b, o, none⟩ ∧ b < B ∧ w.rangeAt b (o + k * sz) (f x) := by
  have h0 : (f x)[0]? = some ((f x)[0]'(by rw [hf]; exact hs)) := List.getElem?_eq_getElem _
  have h1 := flat_at hf L k x hk 0 _ h0
  obtain ⟨b, o, rfl, hb, hc⟩ := h.plain (by intro e; rw [e] at h1; simp at h1)
  exact ⟨b, o, rfl, hb, fun j v hv => by rw [Nat.add_assoc]; exact hc _ _ (flat_at hf L k x hk j v hv)⟩
theorem flat_snoc {α : Type} (f : α → List Value) (L : List α) (x : α) : (L ++ [x]).flatMap f = L.flatMap f ++ f x := by simp
theorem range_below {w w1 : World} {B b o : Nat} {cs : List Value} (h : w.rangeAt b o cs) (hb : b < B) (k : Below B w w1) : w1.rangeAt b o cs := fun j v hv => (k.cell (p := ⟨b, o + j, none⟩) hb).trans (h j v hv)
theorem range_blk {w : World} {p : Nat} {T : TypeId} {cs : List Value} (h : Blk w p T cs.toArray) : w.rangeAt p 0 cs := fun j v hv => by rw [Nat.zero_add, h.cell j, List.getElem?_toArray]; exact hv
theorem blk_row {w : World} {p : Nat} {T : TypeId} {cs : Array Value} (h : Blk w p T cs) (cs1 : Array Value) : Blk (w.setRow p cs1) p T cs1 := setRow_heap w p cs cs1 T (0, 0) h
theorem exec_store_row {P : Program} {ρ : Operand → Value} {o : Oper} {w : World} (ty : TypeId) (x y : Operand) (ho : o.op = .store ty x y)
    (g : Nat) (cells : Array Value) (hx : ρ x = .pointer (some ⟨g, 0, none⟩)) (hy : ρ y = .agg cells)
    (t : TypeId) (old : Array Value) (hg : Blk w g t old) (hi : (P.info? ty).map (·.size) = some cells.size)
    (hold : old.size = cells.size) (h1 : cells.all (·.oneCell') = true) : (execOp ρ o).run P w = .ok .skip (w.setRow g cells) := by
  unfold execOp
  simp only [ho, hx, hy, Instr.storeAt, Instr.sureAddr, Sem.run_bind, Sem.run_pure, Result.andThen_ok, run_storeVar_row w g t ty old cells hg hi hold h1]
theorem exec_load {P : Program} {ρ : Operand → Value} {o : Oper} {w : World} {ty : TypeId} {x : Operand} {p v : Value} (h : (Instr.loadAt ty p).run P w = .ok v w) (ho : o.op = .load ty x) (hx : ρ x = p) : (execOp ρ o).run P w = .ok (.value v) w := by
  unfold execOp
  simp only [ho, hx, Sem.run_bind, h, Result.andThen_ok, Sem.run_pure]
theorem load_blk {P : Program} {w : World} {p : Nat} {T ty : TypeId} {cs : Array Value} {d : TypeDesc} (h : Blk w p T cs) (hu : P.underlying ty = some d) (hd : d.isRow = true) (hi : (P.info? ty).map (·.size) = some cs.size) : (Instr.loadAt ty (.pointer (some ⟨p, 0, none⟩))).run P w = .ok (.agg cs) w := by
  have h1 : w.rangeAt p 0 cs.toList := fun j v hv => by rw [Nat.zero_add, h.cell j]; simpa using hv
  have := run_loadAt_mid (P := P) w p 0 ty cs.toList d h1 hu hd (by simpa using hi)
  simpa using this
theorem only_row {w a : World} {fp : List Nat} (h : Only w a fp) {g : Nat} (hg : g ∈ fp ∨ w.heap.size ≤ g) (cs : Array Value) : Only w (a.setRow g cs) fp :=
  ⟨h.os, h.tape, h.output, by rw [size_setRow]; exact h.size, fun b hb hf => (setRow_other a g b cs (fun e => by subst e; rcases hg with hg | hg; exact hf hg; omega)).trans (h.block b hb hf)⟩
theorem lists_takeF {w : World} {B : Nat} {A : Option Addr} {xs : List Value} (h : Lists w B A xs) (k : Nat) : Lists w B A (xs.take k) :=
  ⟨fun ha => by rw [h.nil ha]; simp, fun a ha j u hu => h.cell a ha j u (by
    rw [List.getElem?_take] at hu
    split at hu
    · exact hu
    · cases hu), fun a ha hx => h.lt a ha (fun e => hx (by rw [e]; simp))⟩
theorem lists_row (w : World) (cs : List Value) (T : TypeId) : Lists (w.alloc (.cells cs.toArray T)) (w.heap.size + 1) (some ⟨w.heap.size, 0, none⟩) cs :=
  ⟨fun ha => (nomatch ha), fun a ha j u hu => by
    cases ha
    rw [addr_plain, World.cell?_alloc_new, Nat.zero_add, ← hu]
    rw [List.getElem?_toArray], fun a ha _ => by cases ha; simp⟩
theorem lists_row_at (w : World) (cs : List Value) (T : TypeId) (k : Nat) (hk : k = w.heap.size) : Lists (w.alloc (.cells cs.toArray T)) (k + 1) (some ⟨k, 0, none⟩) cs := hk ▸ lists_row w cs T
theorem results_row_tmp {P : Program} {fn : Func} {p u : Tmp} {ty : TypeId} (h : fn.results = #[.cell p ty, .tmp u]) (tmps : Array Value) (w : World) (g : Nat) (t : TypeId) (cs : Array Value) (fr : Nat × Nat) (d : TypeDesc) (v : Value)
    (hp : tmps.getD p undef = .pointer (some ⟨g, 0, none⟩)) (hv : tmps.getD u undef = v) (hg : w.heap[g]? = some (.cells cs t fr))
    (hu : P.underlying ty = some d) (hd : (match d with | .struct _ | .array _ _ => true | _ => false) = true) (hi : (P.info? ty).map (·.size) = some cs.size) :
    (results fn tmps).run P w = .ok (.tuple #[.agg cs, v]) w := by
  rw [results_cell_tmp h, hp, hv]
  simp [asAddr, Result.andThen, run_loadVar_row w g t ty cs fr d hg hu hd hi]
theorem results_row_tmp2 {P : Program} {fn : Func} {p u u2 : Tmp} {ty : TypeId} (h : fn.results = #[.cell p ty, .tmp u, .tmp u2]) (tmps : Array Value) (w : World) (g : Nat) (t : TypeId) (cs : Array Value) (fr : Nat × Nat) (d : TypeDesc) (v v2 : Value)
    (hp : tmps.getD p undef = .pointer (some ⟨g, 0, none⟩)) (hv : tmps.getD u undef = v) (hv2 : tmps.getD u2 undef = v2) (hg : w.heap[g]? = some (.cells cs t fr))
    (hu : P.underlying ty = some d) (hd : (match d with | .struct _ | .array _ _ => true | _ => false) = true) (hi : (P.info? ty).map (·.size) = some cs.size) :
    (results fn tmps).run P w = .ok (.tuple #[.agg cs, v, v2]) w := by
  have hp' : tmps[p]?.getD undef = .pointer (some ⟨g, 0, none⟩) := by simpa using hp
  have hv' : tmps[u]?.getD undef = v := by simpa using hv
  have hv2' : tmps[u2]?.getD undef = v2 := by simpa using hv2
  simp [results, h, hp', hv', hv2', Sem.run_bind, asAddr, Result.andThen, run_loadVar_row w g t ty cs fr d hg hu hd hi]
end Go.Proofs.Ytmckdeopljcdfaa
