/- Part 7 of the proof: CnG, Eq4n, CnE. -/
import Derived.Laws.MakeOwn
import Derived.Test.YtlbbigehjdnjmaaCCn5

namespace Go.Proofs.Ytlbbigehjdnjmaa
open Go Go.RowKit
set_option linter.unusedVariables false
set_option linter.unusedSimpArgs false

theorem cnsize_nil (w : World) : Calls Try.prog 15 #[.pointer none] w fun e w' => e = .returned (.tuple #[.int .i64 0, .int .i64 0]) ∧ w = w' := by
  go_enter Try.func15, Try.ntmps15
  go_wp2
  exact bodyPost_ret (results_tmp2 rfl _ _ _) rfl ⟨rfl, rfl⟩
theorem cnat_nil (x y : Int) (w : World) : Calls Try.prog 16 #[.pointer none, .int .i64 x, .int .i64 y] w fun e w' => e = .returned (.int .i64 0) ∧ w = w' := by
  go_enter Try.func16, Try.ntmps16
  go_wp2
  go_ret
  exact ⟨rfl, rfl⟩
theorem cnbytes_nil (w : World) : Calls Try.prog 12 #[.pointer none] w fun e w' => e = .returned (.slice none 0 0) ∧ w = w' := by
  go_enter Try.func12, Try.ntmps12
  go_wp2
  go_ret
  exact ⟨rfl, rfl⟩
theorem cnfork_nil (w : World) : Calls Try.prog 13 #[.pointer none] w fun e w' => e = .returned (.pointer none) ∧ w = w' := by
  go_enter Try.func13, Try.ntmps13
  go_wp2
  go_ret
  exact ⟨rfl, rfl⟩
set_option maxRecDepth 100000 in
theorem cnsize_any (q g wd ht : Nat) (E : List Value) (w : World) (h : CnV w q g wd ht E) : Calls Try.prog 15 #[.pointer (some ⟨q, 0, none⟩)] w fun e w' => e = .returned (.tuple #[.int .i64 (wd : Nat), .int .i64 (ht : Nat)]) ∧ Below w.heap.size w w' := by
  have rb := h.blk
  have a0 := rb.cell 0; have a1 := rb.cell 1; have a2 := rb.cell 2; have a3 := rb.cell 3; have a4 := rb.cell 4; have al := rb.lt; simp only [List.getElem?_toArray, List.getElem?_cons_succ, List.getElem?_cons_zero] at a0 a1 a2 a3 a4
  have HD := Lib.hid (fun (X : World) (hX : Below w.heap.size w X) => And.intro ((hX.cell (p := ⟨q, 0, none⟩) al).trans a0) (And.intro ((hX.cell (p := ⟨q, 1, none⟩) al).trans a1) (And.intro ((hX.cell (p := ⟨q, 2, none⟩) al).trans a2) (And.intro ((hX.cell (p := ⟨q, 3, none⟩) al).trans a3) (And.intro ((hX.cell (p := ⟨q, 4, none⟩) al).trans a4) (Nat.lt_of_lt_of_le al hX.size))))))
  clear rb a0 a1 a2 a3 a4 h
  go_enter Try.func15, Try.ntmps15
  go_wp2
  clear al
  have hI : Below w.heap.size w w.drew := (Below.refl _ _).drew
  refine wp_region_chain (fun V => Below w.heap.size w V) [(0, false), (1, false), (2, false), (3, false), (4, false), (5, false), (6, false), (7, false), (8, false), (9, false), (10, false), (11, false)] (by kernel_rfl) (by kernel_rfl) hI ?_
  repeat (first
    | (refine ChainL.skip (o := ?_) ?_ ?_ ?_; rotate_left; (focus (first | (simp only [List.getElem?_toArray, List.getElem?_cons_succ, List.getElem?_cons_zero]; with_reducible rfl) | (simp only [List.getElem?_toArray, List.getElem?_cons_zero]; with_reducible rfl))); (focus rfl); simp only [Act.put, List.setIfInBounds_toArray, List.set_cons_zero, List.set_cons_succ])
    | (refine ChainL.val (o := ?_) (v := ?_) ?_ ?_ ?_ ?_ ?_; rotate_left 2; (focus (first | (simp only [List.getElem?_toArray, List.getElem?_cons_succ, List.getElem?_cons_zero]; with_reducible rfl) | (simp only [List.getElem?_toArray, List.getElem?_cons_zero]; with_reducible rfl))); (focus (intro _ _ h; cases h)); (focus rfl); (focus (intro w' hJ; obtain ⟨c0, c1, c2, c3, c4, cl⟩ := HD.out _ hJ; go_simp <;> with_reducible rfl)); simp only [Act.put, List.setIfInBounds_toArray, List.set_cons_zero, List.set_cons_succ]))
  refine ChainL.nil ?_
  go_wp2
  exact bodyPost_ret (results_tmp2 rfl _ _ _) rfl ⟨rfl, hI⟩
/-- A pixel's byte. -/
def atC (wd ht : Nat) (E : List Value) (x y : Int) : Int := if 0 ≤ x ∧ x < wd ∧ 0 ≤ y ∧ y < ht then ub (E.getD (y.toNat * wd + x.toNat) (.int .u8 0)) else 0
set_option maxRecDepth 100000 in
theorem cnat_no (q g wd ht : Nat) (E : List Value) (x y : Int) (w : World) (h : CnV w q g wd ht E) (ho : ¬ (0 ≤ x ∧ x < wd ∧ 0 ≤ y ∧ y < ht)) : Calls Try.prog 16 #[.pointer (some ⟨q, 0, none⟩), .int .i64 x, .int .i64 y] w fun e w' => e = .returned (.int .i64 0) ∧ Below w.heap.size w w' := by
  have CH := fun W => holds_any ⟨0, 0, wd, ht⟩ x y W
  rw [show holdsQ ⟨0, 0, wd, ht⟩ x y = false by unfold holdsQ; rw [Bool.and_eq_false_iff]; right; rw [Bool.eq_false_iff]; simp; omega] at CH
  have rb := h.blk
  have a0 := rb.cell 0; have a1 := rb.cell 1; have a2 := rb.cell 2; have a3 := rb.cell 3; have a4 := rb.cell 4; have al := rb.lt; simp only [List.getElem?_toArray, List.getElem?_cons_succ, List.getElem?_cons_zero] at a0 a1 a2 a3 a4
  clear rb h ho
  go_enter Try.func16, Try.ntmps16
  go_wp2_with (go_at_call 35; ((with_reducible refine (CH _).mono ?_); rintro e w1 ⟨rfl, b1⟩))
  go_ret
  exact ⟨rfl, b1⟩
set_option maxRecDepth 100000 in
theorem cnat_yes (q g wd ht x y : Nat) (E : List Value) (w : World) (h : CnV w q g wd ht E) (hx : x < wd) (hy : y < ht) : Calls Try.prog 16 #[.pointer (some ⟨q, 0, none⟩), .int .i64 (x : Nat), .int .i64 (y : Nat)] w fun e w' => e = .returned (.int .i64 (ub (E.getD (y * wd + x) (.int .u8 0)))) ∧ Below w.heap.size w w' := by
  have CH := fun W => holds_any ⟨0, 0, wd, ht⟩ x y W
  have hd := h.dim
  rw [show holdsQ ⟨0, 0, wd, ht⟩ x y = true by unfold holdsQ; simp [mayQ, mayB]; omega] at CH
  have h1 : (y + 1) * wd ≤ ht * wd := Nat.mul_le_mul_right wd hy
  rw [Nat.add_mul, Nat.one_mul, Nat.mul_comm ht wd] at h1
  have hsq := h.sq
  obtain ⟨m, hm⟩ : ∃ m, m = y * wd := ⟨_, rfl⟩
  obtain ⟨k, hk⟩ : ∃ k, k = y * wd + x := ⟨_, rfl⟩
  have hkl : k < wd * ht := by omega
  have hg0 : E[k]? = some (E[k]'(by rw [h.len]; exact hkl)) := List.getElem?_eq_getElem _
  have hv := (b8_in (h.b8 _ (List.getElem_mem (by rw [h.len]; exact hkl : k < E.length))))
  rw [← hk, show E.getD k (.int .u8 0) = E[k]'(by rw [h.len]; exact hkl) by rw [List.getD_eq_getElem?_getD, hg0, Option.getD_some]]
  generalize E[k]'(by rw [h.len]; exact hkl) = v at *
  obtain ⟨ev, hvi⟩ := hv
  have hc : w.cell? ⟨g, k, none⟩ = some (.int .u8 (ub v)) := by rw [← ev, h.row.cell, List.getElem?_toArray]; exact hg0
  have hgl := h.row.lt
  obtain ⟨v1, v2⟩ := inB_in hvi
  have E1 := Lib.hid (show wrap64 ((y : Int) * (wd : Int)) = (m : Int) from by rw [w64mul y wd (by omega), hm])
  have E2 := Lib.hid (show wrap64 ((m : Int) + (x : Int)) = (k : Int) from by rw [w64sum m x (by omega), hk, hm])
  have E3 := Lib.hid (show IntKind.i64.wrap ((y : Int) * (wd : Int)) = (m : Int) from by rw [IntWalk.i64_in _ (by rw [← Int.natCast_mul]; omega), ← Int.natCast_mul, hm])
  have E4 := Lib.hid (show IntKind.i64.wrap ((m : Int) + (x : Int)) = (k : Int) from by rw [w64sumk m x (by omega), hk, hm])
  obtain ⟨n, hn⟩ : ∃ n, n = wd * ht := ⟨_, rfl⟩
  have rb := h.blk
  rw [← hn] at rb hkl
  have a0 := rb.cell 0; have a1 := rb.cell 1; have a2 := rb.cell 2; have a3 := rb.cell 3; have a4 := rb.cell 4; have al := rb.lt; simp only [List.getElem?_toArray, List.getElem?_cons_succ, List.getElem?_cons_zero] at a0 a1 a2 a3 a4
  clear rb h hd h1 hsq hm hk hg0 ev hvi hx hy hn
  generalize ub v = u at *
  go_enter Try.func16, Try.ntmps16
  go_wp2_with (go_at_call 35; ((with_reducible refine (CH _).mono ?_); rintro e w1 ⟨rfl, b1⟩))
  have HD := Lib.hid (fun (X : World) (hX : Below w1.heap.size w1 X) => have hX := b1.trans (hX.mono b1.size); And.intro ((hX.cell (p := ⟨q, 0, none⟩) al).trans a0) (And.intro ((hX.cell (p := ⟨q, 1, none⟩) al).trans a1) (And.intro ((hX.cell (p := ⟨q, 2, none⟩) al).trans a2) (And.intro ((hX.cell (p := ⟨q, 3, none⟩) al).trans a3) (And.intro ((hX.cell (p := ⟨q, 4, none⟩) al).trans a4) (And.intro (Nat.lt_of_lt_of_le al hX.size) (And.intro ((hX.cell (p := ⟨g, k, none⟩) hgl).trans hc) (Nat.lt_of_lt_of_le hgl hX.size))))))))
  clear a0 a1 a2 a3 a4 al hc hgl
  have hI : Below w1.heap.size w1 w1.drew := (Below.refl _ _).drew
  refine wp_region_chain (fun V => Below w1.heap.size w1 V) [(0, false), (1, false), (2, false), (3, false), (4, false), (5, false), (6, false), (7, false), (8, false), (9, false), (10, false), (11, false), (12, false), (13, false), (14, false), (15, false), (16, false)] (by kernel_rfl) (by kernel_rfl) hI ?_
  repeat (first
    | (refine ChainL.skip (o := ?_) ?_ ?_ ?_; rotate_left; (focus (first | (simp only [List.getElem?_toArray, List.getElem?_cons_succ, List.getElem?_cons_zero]; with_reducible rfl) | (simp only [List.getElem?_toArray, List.getElem?_cons_zero]; with_reducible rfl))); (focus rfl); simp only [Act.put, List.setIfInBounds_toArray, List.set_cons_zero, List.set_cons_succ])
    | (refine ChainL.val (o := ?_) (v := ?_) ?_ ?_ ?_ ?_ ?_; rotate_left 2; (focus (first | (simp only [List.getElem?_toArray, List.getElem?_cons_succ, List.getElem?_cons_zero]; with_reducible rfl) | (simp only [List.getElem?_toArray, List.getElem?_cons_zero]; with_reducible rfl))); (focus (intro _ _ h; cases h)); (focus rfl); (focus (intro w' hJ; obtain ⟨c0, c1, c2, c3, c4, cl, c5, c6⟩ := HD.out _ hJ; have e1 := E1.out; have e2 := E2.out; have e3 := E3.out; have e4 := E4.out; go_simp <;> with_reducible rfl)); simp only [Act.put, List.setIfInBounds_toArray, List.set_cons_zero, List.set_cons_succ]))
  refine ChainL.nil ?_
  go_wp2
  go_ret
  exact ⟨ret_int (IntWalk.i64_in _ (by omega)), b1.trans (hI.mono b1.size)⟩
theorem cnat_any (q g wd ht : Nat) (E : List Value) (x y : Int) (w : World) (h : CnV w q g wd ht E) : Calls Try.prog 16 #[.pointer (some ⟨q, 0, none⟩), .int .i64 x, .int .i64 y] w fun e w' => e = .returned (.int .i64 (atC wd ht E x y)) ∧ Below w.heap.size w w' := by
  unfold atC
  by_cases ho : 0 ≤ x ∧ x < wd ∧ 0 ≤ y ∧ y < ht
  · rw [if_pos ho]
    obtain ⟨a, rfl⟩ : ∃ a : Nat, x = a := ⟨x.toNat, by omega⟩
    obtain ⟨b, rfl⟩ : ∃ b : Nat, y = b := ⟨y.toNat, by omega⟩
    exact cnat_yes q g wd ht a b E w h (by omega) (by omega)
  · rw [if_neg ho]; exact cnat_no q g wd ht E x y w h ho
theorem u8InfoCn : (Try.prog.info? 5).map (fun i => (i.zero, i.size, i.bytes)) = some (some (.int .u8 0), 1, 1) := by kernel_rfl
def zrs (n : Nat) : List Value := List.replicate n (.int .u8 0)
theorem make_cn (n : Nat) (hn : n ≤ 16777216) (w : World) : (Instr.makeSlice 33 (.int .i64 (n : Nat)) (.int .i64 (n : Nat))).run Try.prog w = .ok (.slice (some ⟨w.heap.size, 0, none⟩) n n) (w.alloc (.cells (zrs n).toArray 5)) := by
  obtain ⟨i0, hi, hz0, hz1, hz2⟩ := info_parts u8InfoCn
  have h := run_makeSlice (P := Try.prog) (w := w) 33 5 i0 (.int .u8 0) Try.underlying33 hi hz0 .i64 .i64 (n : Nat) (n : Nat) (by omega) (Int.le_refl _) (by rw [hz1, Int.toNat_natCast]; omega) (by rw [hz2]; omega) (by omega)
  rw [Int.toNat_natCast, hz1, Nat.mul_one, show (Value.int .u8 0).cells = #[.int .u8 0] from rfl] at h
  have e : madeCells #[Value.int .u8 0] n = (zrs n).toArray := by
    unfold zrs madeCells
    apply Array.ext
    · simp
    · intro i h1 h2
      simp [Nat.mod_one]
  rw [e] at h
  exact h
set_option maxRecDepth 100000 in
theorem cnbytes_any (q g wd ht n : Nat) (E : List Value) (w : World) (h : CnV w q g wd ht E) (hn : n = wd * ht) : Calls Try.prog 12 #[.pointer (some ⟨q, 0, none⟩)] w fun e w' => e = .returned (.slice (some ⟨w.heap.size, 0, none⟩) n n) ∧ Blk w' w.heap.size 5 E.toArray ∧ Below w.heap.size w w' := by
  have hsq := h.sq
  rw [← hn] at hsq
  have MK := fun W => make_cn n hsq W
  have hl : E.length = n := by rw [h.len, hn]
  have rb := h.blk
  rw [← hn] at rb
  have hw1 : Below w.heap.size w (w.alloc (.cells (zrs n).toArray 5)) := below_a1 _ _
  have K1 := Blk.new w 5 (zrs n).toArray
  have R1 := h.row.below hw1
  obtain ⟨w2, hrun, hh, ho⟩ := run_copy_only (P := Try.prog) (w := w.alloc (.cells (zrs n).toArray 5)) 33 33 3 5 Try.underlying33 u8One (some ⟨w.heap.size, 0, none⟩) (some ⟨g, 0, none⟩) n n n n w.heap.size 0 (zrs n) 5 K1 E (by rw [hl]; exact (Nat.min_self n).symm) (fun _ => ⟨rfl, ⟨g, 0, none⟩, rfl, fun j v hv => by rw [addr_plain, Nat.zero_add, R1.cell, List.getElem?_toArray]; exact hv⟩) (by rw [hl]; simp [zrs]) h.b8.one
  have hs : splice (zrs n) 0 E = E := by
    unfold splice
    rw [List.take_zero, List.nil_append, List.drop_eq_nil_of_le (by rw [hl]; simp [zrs]), List.append_nil]
  rw [hs] at hh
  rw [hl] at hrun
  have hb2 : Below w.heap.size w w2 := hw1.trans (ho.to_below (by simp) (by simp))
  have hrun2 : ∀ ty, (Builtin.copy_ #[33, 33] ty #[.slice (some ⟨w.heap.size, 0, none⟩) n n, .slice (some ⟨g, 0, none⟩) n n]).run Try.prog (w.alloc (.cells (zrs n).toArray 5)) = .ok (goInt n) w2 := fun ty => hrun
  have a0 := rb.cell 0; have a1 := rb.cell 1; have a2 := rb.cell 2; have a3 := rb.cell 3; have a4 := rb.cell 4; have al := rb.lt; simp only [List.getElem?_toArray, List.getElem?_cons_succ, List.getElem?_cons_zero] at a0 a1 a2 a3 a4
  clear rb h hn hl ho hrun K1 R1 hs
  go_enter Try.func12, Try.ntmps12
  go_wp2
  go_ret
  exact ⟨rfl, hh, hb2⟩
set_option maxRecDepth 100000 in
set_option maxHeartbeats 1000000 in
theorem cnfork_any (q g wd ht : Nat) (E : List Value) (w : World) (h : CnV w q g wd ht E) : Calls Try.prog 13 #[.pointer (some ⟨q, 0, none⟩)] w fun e w' => ∃ p b, e = .returned (.pointer (some ⟨p, 0, none⟩)) ∧ CnV w' p b wd ht E ∧ w.heap.size ≤ p ∧ w.heap.size ≤ b ∧ Below w.heap.size w w' := by
  obtain ⟨n, hn⟩ : ∃ n, n = wd * ht := ⟨_, rfl⟩
  have CB := fun W (hW : Below w.heap.size w W) => cnbytes_any q g wd ht n E W (h.below hW) hn
  have HH := Lib.hid h
  have HN := Lib.hid hn
  have rb := h.blk
  rw [← hn] at rb
  have a0 := rb.cell 0; have a1 := rb.cell 1; have a2 := rb.cell 2; have a3 := rb.cell 3; have a4 := rb.cell 4; have al := rb.lt; simp only [List.getElem?_toArray, List.getElem?_cons_succ, List.getElem?_cons_zero] at a0 a1 a2 a3 a4
  have HD := Lib.hid (fun (X : World) (hX : Below w.heap.size w X) => And.intro ((hX.cell (p := ⟨q, 0, none⟩) al).trans a0) (And.intro ((hX.cell (p := ⟨q, 1, none⟩) al).trans a1) (And.intro ((hX.cell (p := ⟨q, 2, none⟩) al).trans a2) (And.intro ((hX.cell (p := ⟨q, 3, none⟩) al).trans a3) (And.intro ((hX.cell (p := ⟨q, 4, none⟩) al).trans a4) (Nat.lt_of_lt_of_le al hX.size))))))
  clear rb a0 a1 a2 a3 a4 h hn
  go_enter Try.func13, Try.ntmps13
  go_wp2
  have hI : Below w.heap.size w w.drew := (Below.refl _ _).drew
  clear al
  refine wp_region_chain (fun V => Below w.heap.size w V) [(0, false), (1, false), (2, false), (3, false), (4, false), (5, true), (6, false), (7, true), (8, false)] (by kernel_rfl) (by kernel_rfl) hI ?_
  repeat (first
    | (refine ChainL.skip (o := ?_) ?_ ?_ ?_; rotate_left; (focus (first | (simp only [List.getElem?_toArray, List.getElem?_cons_succ, List.getElem?_cons_zero]; with_reducible rfl) | (simp only [List.getElem?_toArray, List.getElem?_cons_zero]; with_reducible rfl))); (focus rfl); simp only [Act.put, List.setIfInBounds_toArray, List.set_cons_zero, List.set_cons_succ])
    | (refine ChainL.val (o := ?_) (v := ?_) ?_ ?_ ?_ ?_ ?_; rotate_left 2; (focus (first | (simp only [List.getElem?_toArray, List.getElem?_cons_succ, List.getElem?_cons_zero]; with_reducible rfl) | (simp only [List.getElem?_toArray, List.getElem?_cons_zero]; with_reducible rfl))); (focus (intro _ _ h; cases h)); (focus rfl); (focus (intro w' hJ; obtain ⟨c0, c1, c2, c3, c4, cl⟩ := HD.out _ hJ; go_simp <;> with_reducible rfl)); simp only [Act.put, List.setIfInBounds_toArray, List.set_cons_zero, List.set_cons_succ]))
  refine ChainL.call (o := ?_) (f := ?_) (args := ?_) ?_ ?_ ?_ ?_
  rotate_left 3
  (focus (first | (simp only [List.getElem?_toArray, List.getElem?_cons_succ, List.getElem?_cons_zero]; with_reducible rfl) | (simp only [List.getElem?_toArray, List.getElem?_cons_zero]; with_reducible rfl)))
  (focus rfl)
  (focus (go_simp; (constructor <;> with_reducible rfl)))
  with_reducible refine (CB _ hI).mono ?_
  rintro e w1 ⟨rfl, K1, b1⟩; have hI1 := hI.trans (b1.mono hI.size); refine ⟨_, rfl, hI1, ?_⟩
  simp only [Act.put, List.setIfInBounds_toArray, List.set_cons_zero, List.set_cons_succ]
  repeat (first
    | (refine ChainL.skip (o := ?_) ?_ ?_ ?_; rotate_left; (focus (first | (simp only [List.getElem?_toArray, List.getElem?_cons_succ, List.getElem?_cons_zero]; with_reducible rfl) | (simp only [List.getElem?_toArray, List.getElem?_cons_zero]; with_reducible rfl))); (focus rfl); simp only [Act.put, List.setIfInBounds_toArray, List.set_cons_zero, List.set_cons_succ])
    | (refine ChainL.val (o := ?_) (v := ?_) ?_ ?_ ?_ ?_ ?_; rotate_left 2; (focus (first | (simp only [List.getElem?_toArray, List.getElem?_cons_succ, List.getElem?_cons_zero]; with_reducible rfl) | (simp only [List.getElem?_toArray, List.getElem?_cons_zero]; with_reducible rfl))); (focus (intro _ _ h; cases h)); (focus rfl); (focus (intro w' hJ; obtain ⟨c0, c1, c2, c3, c4, cl⟩ := HD.out _ hJ; go_simp <;> with_reducible rfl)); simp only [Act.put, List.setIfInBounds_toArray, List.set_cons_zero, List.set_cons_succ]))
  have hI2 := hI1.alloc hI1.size (.cells #[.int .i64 0, .int .i64 0, .int .i64 (wd : Nat), .int .i64 (ht : Nat), .slice (some ⟨w.heap.size, 0, none⟩) n n] 63)
  refine ChainL.does (o := ?_) (v := ?_) (w1 := ?_) ?_ ?_ ?_ ?_ ?_
  rotate_left 3
  (focus (first | (simp only [List.getElem?_toArray, List.getElem?_cons_succ, List.getElem?_cons_zero]; with_reducible rfl) | (simp only [List.getElem?_toArray, List.getElem?_cons_zero]; with_reducible rfl)))
  (focus rfl)
  (focus (go_simp; (constructor <;> with_reducible rfl)))
  (focus (exact hI2))
  simp only [Act.put, List.setIfInBounds_toArray, List.set_cons_zero, List.set_cons_succ]
  repeat (first
    | (refine ChainL.skip (o := ?_) ?_ ?_ ?_; rotate_left; (focus (first | (simp only [List.getElem?_toArray, List.getElem?_cons_succ, List.getElem?_cons_zero]; with_reducible rfl) | (simp only [List.getElem?_toArray, List.getElem?_cons_zero]; with_reducible rfl))); (focus rfl); simp only [Act.put, List.setIfInBounds_toArray, List.set_cons_zero, List.set_cons_succ])
    | (refine ChainL.val (o := ?_) (v := ?_) ?_ ?_ ?_ ?_ ?_; rotate_left 2; (focus (first | (simp only [List.getElem?_toArray, List.getElem?_cons_succ, List.getElem?_cons_zero]; with_reducible rfl) | (simp only [List.getElem?_toArray, List.getElem?_cons_zero]; with_reducible rfl))); (focus (intro _ _ h; cases h)); (focus rfl); (focus (intro w' hJ; obtain ⟨c0, c1, c2, c3, c4, cl⟩ := HD.out _ hJ; go_simp <;> with_reducible rfl)); simp only [Act.put, List.setIfInBounds_toArray, List.set_cons_zero, List.set_cons_succ]))
  refine ChainL.nil ?_
  go_wp2
  go_ret
  have K2 := Blk.new w1 63 #[.int .i64 0, .int .i64 0, .int .i64 (wd : Nat), .int .i64 (ht : Nat), .slice (some ⟨w.heap.size, 0, none⟩) n n]
  refine ⟨w1.heap.size, w.heap.size, rfl, ⟨by rw [← HN.out]; exact K2, K1.below (below_a1 _ _), HH.out.len, HH.out.b8, HH.out.dim⟩, hI1.size, Nat.le_refl _, hI2⟩
end Go.Proofs.Ytlbbigehjdnjmaa

namespace Go.Proofs.Ytlbbigehjdnjmaa
open Go.RowKit

theorem neB_run (a b c d a' b' c' d' : Int) (w : World) :
    (binOp .neq 32 (.agg #[.int .i64 a, .int .i64 b, .int .i64 c, .int .i64 d]) (.agg #[.int .i64 a', .int .i64 b', .int .i64 c', .int .i64 d'])).run Try.prog w = .ok (.bool (!eq4 a b c d a' b' c' d')) w := by
  have hS : Try.prog.underlying 32 = some (.struct (Try.prog.fieldsOf 32)) := by kernel_rfl
  have hp : Try.prog.stoodInHeld 32 = false := by kernel_rfl
  have u3 := Try.underlying3
  have a3 := Try.isAgg3
  have z3 := Try.sizeOf3
  rw [run_neq_struct, show (10000 : Nat) = 9999 + 1 from rfl, run_equalIn_agg w 9999 32 _ _ hS hp]
  simp only [Program.fieldsOf, Try.underlying32]
  unfold eq4
  go_simp
  by_cases h1 : a = a' <;> by_cases h2 : b = b' <;> by_cases h3 : c = c' <;> by_cases h4 : d = d' <;> simp [h1, h2, h3, h4]

theorem neB_guard (a b c d a' b' c' d' : Int) (x y : Operand) (w : World) :
    (eqGuard .neq 32 x y (.agg #[.int .i64 a, .int .i64 b, .int .i64 c, .int .i64 d]) (.agg #[.int .i64 a', .int .i64 b', .int .i64 c', .int .i64 d'])).run Try.prog w = .ok () w :=
  run_eqGuard_agg w .neq 32 x y _ _ (by kernel_rfl)

end Go.Proofs.Ytlbbigehjdnjmaa

namespace Go.Proofs.Ytlbbigehjdnjmaa
open Go Go.RowKit
set_option linter.unusedVariables false
set_option linter.unusedSimpArgs false

theorem mk_any_false {f : Int → Bool} {zs : List Int} {k : Nat} {z : Int} (hk : k < zs.length) (hz : zs.getD k 0 = z) (h : f z = false) : zs.all f = false := by
  rw [List.all_eq_false]
  refine ⟨z, ?_, by simp [h]⟩
  rw [← hz, List.getD_eq_getElem?_getD, List.getElem?_eq_getElem hk, Option.getD_some]
  exact List.getElem_mem hk
set_option maxRecDepth 100000 in
theorem rbeyond_any (b len cap : Nat) (zs : List Int) (w : World) (hl : len = zs.length) (hm : len ≤ 9223372036854775807) (h : Blk w b 3 (intCells zs).toArray) :
    Calls Try.prog 59 #[.slice (some ⟨b, 0, none⟩) len cap] w fun e w' => e = .returned (.bool (!zs.all (inZ (-16384) 16384))) ∧ w = w' := by
  have HL : Hid (len = zs.length) := hl
  have HC : Hid (∀ j, j < zs.length → w.cell? ⟨b, j, none⟩ = some (.int .i64 (zs.getD j 0))) := fun j hj => by rw [h.cell, List.getElem?_toArray, intCells_get zs j hj]
  clear hl h
  go_enter Try.func59, Try.ntmps59
  go_wp2
  go_loop [4, 7] (fun _ i => ∃ k : Nat, k ≤ len ∧ i = .int .i64 k ∧ (zs.take k).all (inZ (-16384) 16384) = true) (fun _ i => len - (intOf i).toNat)
  case atStart => exact ⟨0, Nat.zero_le _, rfl, rfl⟩
  case round =>
    obtain ⟨k, hk, rfl, hall⟩ := hrel
    have HA : Hid ((zs.take k).all (inZ (-16384) 16384) = true) := hall
    clear hall
    by_cases hlt : k < len
    · have hcell : w.cell? ⟨b, k, none⟩ = some (.int .i64 (zs.getD k 0)) := HC.out k (by have := HL.out; omega)
      have hts := Hid.out (p := _) (all_take_snoc (inZ (-16384) 16384) zs k (by have := HL.out; omega))
      generalize hz : zs.getD k 0 = z at hcell hts
      have HT : Hid ((zs.take (k + 1)).all (inZ (-16384) 16384) = ((zs.take k).all (inZ (-16384) 16384) && inZ (-16384) 16384 z)) := hts
      clear hts hz
      by_cases hmz : inZ (-16384) 16384 z = true
      · have hm2 := inB_in hmz
        obtain ⟨g1, g2⟩ := hm2
        go_wp2
        go_round
        case rel => exact ⟨k + 1, by omega, by go_num, by rw [HT.out, HA.out, hmz]; rfl⟩
        case measure => simp [intOf]; omega
      · have hmf : inZ (-16384) 16384 z = false := by simpa using hmz
        clear hmz
        rcases inB_out hmf with g | ⟨g1, g2⟩
        all_goals
          go_wp2
          go_ret
          refine ⟨?_, rfl⟩
          have := all_false_of_take (inZ (-16384) 16384) zs (k + 1) (by rw [HT.out, hmf, Bool.and_false])
          rw [this]; rfl
    · go_wp2
      go_ret
      refine ⟨?_, rfl⟩
      have : zs.all (inZ (-16384) 16384) = true := by rw [← HA.out, List.take_of_length_le (by have := HL.out; omega)]
      rw [this]; rfl
/-- All numbers of a box are near enough to 0. -/
def in4 (A : Q) : Bool := [A.x0, A.y0, A.x1, A.y1].all (inZ (-16384) 16384)
theorem in4_lims {A : Q} (h : in4 A = true) : (-16384 ≤ A.x0 ∧ A.x0 ≤ 16384) ∧ (-16384 ≤ A.y0 ∧ A.y0 ≤ 16384) ∧ (-16384 ≤ A.x1 ∧ A.x1 ≤ 16384) ∧ (-16384 ≤ A.y1 ∧ A.y1 ≤ 16384) := by
  unfold in4 inZ at h
  simp at h
  omega
theorem in4_may {A : Q} (h : in4 A = true) : mayQ A = true := by
  have := in4_lims h
  simp [mayQ, mayB]; omega
def areaQ (A : Q) : Int := if emptyQ A then 0 else (A.x1 - A.x0) * (A.y1 - A.y0)
def zerB (A : Q) : Bool := eq4 A.x0 A.y0 A.x1 A.y1 0 0 0 0
/-- May a mask have this box? -/
def msB (A : Q) : Bool := in4 A && (!emptyQ A || zerB A) && decide (areaQ A ≤ 4194304)
theorem prod4 {A : Q} (h : in4 A = true) (he : emptyQ A = false) : 1 ≤ A.x1 - A.x0 ∧ A.x1 - A.x0 ≤ 32768 ∧ 1 ≤ A.y1 - A.y0 ∧ A.y1 - A.y0 ≤ 32768 ∧ 1 ≤ (A.x1 - A.x0) * (A.y1 - A.y0) ∧ (A.x1 - A.x0) * (A.y1 - A.y0) ≤ 1073741824 := by
  have h1 := in4_lims h
  have h2 := empty_lims he
  have h3 : (A.x1 - A.x0) * (A.y1 - A.y0) ≤ 32768 * (A.y1 - A.y0) := Int.mul_le_mul_of_nonneg_right (by omega) (by omega)
  have h4 : 1 * (A.y1 - A.y0) ≤ (A.x1 - A.x0) * (A.y1 - A.y0) := Int.mul_le_mul_of_nonneg_right (by omega) (by omega)
  omega
theorem area_near {A : Q} (h : in4 A = true) (he : emptyQ A = false) (w : World) : Calls Try.prog 61 #[.agg #[.int .i64 A.x0, .int .i64 A.y0, .int .i64 A.x1, .int .i64 A.y1]] w fun e w' => e = .returned (.tuple #[.int .i64 ((A.x1 - A.x0) * (A.y1 - A.y0)), .int .i64 0]) ∧ Below w.heap.size w w' := by
  have h1 := area_full A w (in4_may h) he
  have h2 := prod4 h he
  have h3 : ¬ (1099511627776 / (A.x1 - A.x0) < A.y1 - A.y0) := by
    have : (32768 : Int) ≤ 1099511627776 / (A.x1 - A.x0) := by
      rw [Int.le_ediv_iff_mul_le (by omega)]
      omega
    omega
  rw [if_neg h3, if_neg h3] at h1
  exact h1
set_option maxRecDepth 100000 in
theorem size_far (A : Q) (h4 : in4 A = false) (w : World) : Calls Try.prog 50 #[.agg #[.int .i64 A.x0, .int .i64 A.y0, .int .i64 A.x1, .int .i64 A.y1]] w fun e w' => e = .returned (.tuple #[.int .i64 0, .int .i64 220]) ∧ Below w.heap.size w w' := by
  have B : Below w.heap.size w (w.alloc (.cells #[.int .i64 A.x0, .int .i64 A.y0, .int .i64 A.x1, .int .i64 A.y1] 32)) := below_a1 _ _
  have K := Blk.new w 32 #[.int .i64 A.x0, .int .i64 A.y0, .int .i64 A.x1, .int .i64 A.y1]
  have CB := rbeyond_any (w.heap.size + 1) 4 4 [A.x0, A.y0, A.x1, A.y1] ((w.alloc (.cells #[.int .i64 A.x0, .int .i64 A.y0, .int .i64 A.x1, .int .i64 A.y1] 32)).alloc (.cells #[.int .i64 A.x0, .int .i64 A.y0, .int .i64 A.x1, .int .i64 A.y1] 3)) rfl (by decide) (by have := Blk.new (w.alloc (.cells #[.int .i64 A.x0, .int .i64 A.y0, .int .i64 A.x1, .int .i64 A.y1] 32)) 3 #[.int .i64 A.x0, .int .i64 A.y0, .int .i64 A.x1, .int .i64 A.y1]; rw [World.size_alloc] at this; exact this)
  rw [show [A.x0, A.y0, A.x1, A.y1].all (inZ (-16384) 16384) = in4 A from rfl, h4] at CB
  have CE := fun W => empty_any A W
  have q1 := fun w => neB_run A.x0 A.y0 A.x1 A.y1 0 0 0 0 w
  have q2 := fun x y w => neB_guard A.x0 A.y0 A.x1 A.y1 0 0 0 0 x y w
  clear CE q1 q2 h4
  go_enter Try.func50, Try.ntmps50
  go_wp2_with (first | (go_at_call 59; ((with_reducible refine (CB).mono ?_); rintro e w' ⟨rfl, rfl⟩; have B := B.alloc B.size (.cells #[.int .i64 A.x0, .int .i64 A.y0, .int .i64 A.x1, .int .i64 A.y1] 3); have K := K.below (below_a1 _ (.cells #[.int .i64 A.x0, .int .i64 A.y0, .int .i64 A.x1, .int .i64 A.y1] 3)); have k0 := K.cell 0; have k1 := K.cell 1; have k2 := K.cell 2; have k3 := K.cell 3; have kl := K.lt; simp only [List.getElem?_toArray, List.getElem?_cons_succ, List.getElem?_cons_zero] at k0 k1 k2 k3)))
  exact bodyPost_ret (results_tmp2 rfl _ _ _) rfl ⟨rfl, B⟩
set_option maxRecDepth 100000 in
theorem size_odd (A : Q) (h4 : in4 A = true) (he : emptyQ A = true) (hz : zerB A = false) (w : World) : Calls Try.prog 50 #[.agg #[.int .i64 A.x0, .int .i64 A.y0, .int .i64 A.x1, .int .i64 A.y1]] w fun e w' => e = .returned (.tuple #[.int .i64 0, .int .i64 220]) ∧ Below w.heap.size w w' := by
  have B : Below w.heap.size w (w.alloc (.cells #[.int .i64 A.x0, .int .i64 A.y0, .int .i64 A.x1, .int .i64 A.y1] 32)) := below_a1 _ _
  have K := Blk.new w 32 #[.int .i64 A.x0, .int .i64 A.y0, .int .i64 A.x1, .int .i64 A.y1]
  have CB := rbeyond_any (w.heap.size + 1) 4 4 [A.x0, A.y0, A.x1, A.y1] ((w.alloc (.cells #[.int .i64 A.x0, .int .i64 A.y0, .int .i64 A.x1, .int .i64 A.y1] 32)).alloc (.cells #[.int .i64 A.x0, .int .i64 A.y0, .int .i64 A.x1, .int .i64 A.y1] 3)) rfl (by decide) (by have := Blk.new (w.alloc (.cells #[.int .i64 A.x0, .int .i64 A.y0, .int .i64 A.x1, .int .i64 A.y1] 32)) 3 #[.int .i64 A.x0, .int .i64 A.y0, .int .i64 A.x1, .int .i64 A.y1]; rw [World.size_alloc] at this; exact this)
  rw [show [A.x0, A.y0, A.x1, A.y1].all (inZ (-16384) 16384) = in4 A from rfl, h4] at CB
  have CE := fun W => empty_any A W
  have q1 := fun w => neB_run A.x0 A.y0 A.x1 A.y1 0 0 0 0 w
  have q2 := fun x y w => neB_guard A.x0 A.y0 A.x1 A.y1 0 0 0 0 x y w
  rw [he] at CE
  rw [show eq4 A.x0 A.y0 A.x1 A.y1 0 0 0 0 = false from hz] at q1
  clear h4 he hz
  go_enter Try.func50, Try.ntmps50
  go_wp2_with (first | (go_at_call 59; ((with_reducible refine (CB).mono ?_); rintro e w' ⟨rfl, rfl⟩; have B := B.alloc B.size (.cells #[.int .i64 A.x0, .int .i64 A.y0, .int .i64 A.x1, .int .i64 A.y1] 3); have K := K.below (below_a1 _ (.cells #[.int .i64 A.x0, .int .i64 A.y0, .int .i64 A.x1, .int .i64 A.y1] 3)); have k0 := K.cell 0; have k1 := K.cell 1; have k2 := K.cell 2; have k3 := K.cell 3; have kl := K.lt; simp only [List.getElem?_toArray, List.getElem?_cons_succ, List.getElem?_cons_zero] at k0 k1 k2 k3)) | (go_at_call 60; ((with_reducible refine (CE _).mono ?_); rintro e w1 ⟨rfl, b1⟩; have B := B.trans (b1.mono B.size); have K := K.below b1; have k0 := K.cell 0; have k1 := K.cell 1; have k2 := K.cell 2; have k3 := K.cell 3; have kl := K.lt; simp only [List.getElem?_toArray, List.getElem?_cons_succ, List.getElem?_cons_zero] at k0 k1 k2 k3)))
  exact bodyPost_ret (results_tmp2 rfl _ _ _) rfl ⟨rfl, B⟩
set_option maxRecDepth 100000 in
theorem size_none (A : Q) (h4 : in4 A = true) (he : emptyQ A = true) (hz : zerB A = true) (w : World) : Calls Try.prog 50 #[.agg #[.int .i64 A.x0, .int .i64 A.y0, .int .i64 A.x1, .int .i64 A.y1]] w fun e w' => e = .returned (.tuple #[.int .i64 0, .int .i64 0]) ∧ Below w.heap.size w w' := by
  have B : Below w.heap.size w (w.alloc (.cells #[.int .i64 A.x0, .int .i64 A.y0, .int .i64 A.x1, .int .i64 A.y1] 32)) := below_a1 _ _
  have K := Blk.new w 32 #[.int .i64 A.x0, .int .i64 A.y0, .int .i64 A.x1, .int .i64 A.y1]
  have CB := rbeyond_any (w.heap.size + 1) 4 4 [A.x0, A.y0, A.x1, A.y1] ((w.alloc (.cells #[.int .i64 A.x0, .int .i64 A.y0, .int .i64 A.x1, .int .i64 A.y1] 32)).alloc (.cells #[.int .i64 A.x0, .int .i64 A.y0, .int .i64 A.x1, .int .i64 A.y1] 3)) rfl (by decide) (by have := Blk.new (w.alloc (.cells #[.int .i64 A.x0, .int .i64 A.y0, .int .i64 A.x1, .int .i64 A.y1] 32)) 3 #[.int .i64 A.x0, .int .i64 A.y0, .int .i64 A.x1, .int .i64 A.y1]; rw [World.size_alloc] at this; exact this)
  rw [show [A.x0, A.y0, A.x1, A.y1].all (inZ (-16384) 16384) = in4 A from rfl, h4] at CB
  have CE := fun W => empty_any A W
  have q1 := fun w => neB_run A.x0 A.y0 A.x1 A.y1 0 0 0 0 w
  have q2 := fun x y w => neB_guard A.x0 A.y0 A.x1 A.y1 0 0 0 0 x y w
  rw [he] at CE
  rw [show eq4 A.x0 A.y0 A.x1 A.y1 0 0 0 0 = true from hz] at q1
  have CA := fun W => area_none A W (in4_may h4) he
  clear h4 he hz
  go_enter Try.func50, Try.ntmps50
  go_wp2_with (first | (go_at_call 59; ((with_reducible refine (CB).mono ?_); rintro e w' ⟨rfl, rfl⟩; have B := B.alloc B.size (.cells #[.int .i64 A.x0, .int .i64 A.y0, .int .i64 A.x1, .int .i64 A.y1] 3); have K := K.below (below_a1 _ (.cells #[.int .i64 A.x0, .int .i64 A.y0, .int .i64 A.x1, .int .i64 A.y1] 3)); have k0 := K.cell 0; have k1 := K.cell 1; have k2 := K.cell 2; have k3 := K.cell 3; have kl := K.lt; simp only [List.getElem?_toArray, List.getElem?_cons_succ, List.getElem?_cons_zero] at k0 k1 k2 k3)) | (go_at_call 60; ((with_reducible refine (CE _).mono ?_); rintro e w1 ⟨rfl, b1⟩; have B := B.trans (b1.mono B.size); have K := K.below b1; have k0 := K.cell 0; have k1 := K.cell 1; have k2 := K.cell 2; have k3 := K.cell 3; have kl := K.lt; simp only [List.getElem?_toArray, List.getElem?_cons_succ, List.getElem?_cons_zero] at k0 k1 k2 k3)) | (go_at_call 61; ((with_reducible refine (CA _).mono ?_); rintro e w1 ⟨rfl, b1⟩; have B := B.trans (b1.mono B.size); have K := K.below b1; have k0 := K.cell 0; have k1 := K.cell 1; have k2 := K.cell 2; have k3 := K.cell 3; have kl := K.lt; simp only [List.getElem?_toArray, List.getElem?_cons_succ, List.getElem?_cons_zero] at k0 k1 k2 k3)))
  exact bodyPost_ret (results_tmp2 rfl _ _ _) rfl ⟨rfl, B⟩
set_option maxRecDepth 100000 in
theorem size_great (A : Q) (h4 : in4 A = true) (he : emptyQ A = false) (hg : 4194304 < (A.x1 - A.x0) * (A.y1 - A.y0)) (w : World) : Calls Try.prog 50 #[.agg #[.int .i64 A.x0, .int .i64 A.y0, .int .i64 A.x1, .int .i64 A.y1]] w fun e w' => e = .returned (.tuple #[.int .i64 0, .int .i64 220]) ∧ Below w.heap.size w w' := by
  have B : Below w.heap.size w (w.alloc (.cells #[.int .i64 A.x0, .int .i64 A.y0, .int .i64 A.x1, .int .i64 A.y1] 32)) := below_a1 _ _
  have K := Blk.new w 32 #[.int .i64 A.x0, .int .i64 A.y0, .int .i64 A.x1, .int .i64 A.y1]
  have CB := rbeyond_any (w.heap.size + 1) 4 4 [A.x0, A.y0, A.x1, A.y1] ((w.alloc (.cells #[.int .i64 A.x0, .int .i64 A.y0, .int .i64 A.x1, .int .i64 A.y1] 32)).alloc (.cells #[.int .i64 A.x0, .int .i64 A.y0, .int .i64 A.x1, .int .i64 A.y1] 3)) rfl (by decide) (by have := Blk.new (w.alloc (.cells #[.int .i64 A.x0, .int .i64 A.y0, .int .i64 A.x1, .int .i64 A.y1] 32)) 3 #[.int .i64 A.x0, .int .i64 A.y0, .int .i64 A.x1, .int .i64 A.y1]; rw [World.size_alloc] at this; exact this)
  rw [show [A.x0, A.y0, A.x1, A.y1].all (inZ (-16384) 16384) = in4 A from rfl, h4] at CB
  have CE := fun W => empty_any A W
  have q1 := fun w => neB_run A.x0 A.y0 A.x1 A.y1 0 0 0 0 w
  have q2 := fun x y w => neB_guard A.x0 A.y0 A.x1 A.y1 0 0 0 0 x y w
  have CA := fun W => area_near h4 he W
  rw [he] at CE
  clear h4 he
  generalize (A.x1 - A.x0) * (A.y1 - A.y0) = ar at *
  go_enter Try.func50, Try.ntmps50
  go_wp2_with (first | (go_at_call 59; ((with_reducible refine (CB).mono ?_); rintro e w' ⟨rfl, rfl⟩; have B := B.alloc B.size (.cells #[.int .i64 A.x0, .int .i64 A.y0, .int .i64 A.x1, .int .i64 A.y1] 3); have K := K.below (below_a1 _ (.cells #[.int .i64 A.x0, .int .i64 A.y0, .int .i64 A.x1, .int .i64 A.y1] 3)); have k0 := K.cell 0; have k1 := K.cell 1; have k2 := K.cell 2; have k3 := K.cell 3; have kl := K.lt; simp only [List.getElem?_toArray, List.getElem?_cons_succ, List.getElem?_cons_zero] at k0 k1 k2 k3)) | (go_at_call 60; ((with_reducible refine (CE _).mono ?_); rintro e w1 ⟨rfl, b1⟩; have B := B.trans (b1.mono B.size); have K := K.below b1; have k0 := K.cell 0; have k1 := K.cell 1; have k2 := K.cell 2; have k3 := K.cell 3; have kl := K.lt; simp only [List.getElem?_toArray, List.getElem?_cons_succ, List.getElem?_cons_zero] at k0 k1 k2 k3)) | (go_at_call 61; ((with_reducible refine (CA _).mono ?_); rintro e w1 ⟨rfl, b1⟩; have B := B.trans (b1.mono B.size); have K := K.below b1; have k0 := K.cell 0; have k1 := K.cell 1; have k2 := K.cell 2; have k3 := K.cell 3; have kl := K.lt; simp only [List.getElem?_toArray, List.getElem?_cons_succ, List.getElem?_cons_zero] at k0 k1 k2 k3)))
  exact bodyPost_ret (results_tmp2 rfl _ _ _) rfl ⟨rfl, B⟩
set_option maxRecDepth 100000 in
theorem size_good (A : Q) (h4 : in4 A = true) (he : emptyQ A = false) (hg : (A.x1 - A.x0) * (A.y1 - A.y0) ≤ 4194304) (w : World) : Calls Try.prog 50 #[.agg #[.int .i64 A.x0, .int .i64 A.y0, .int .i64 A.x1, .int .i64 A.y1]] w fun e w' => e = .returned (.tuple #[.int .i64 ((A.x1 - A.x0) * (A.y1 - A.y0)), .int .i64 0]) ∧ Below w.heap.size w w' := by
  have B : Below w.heap.size w (w.alloc (.cells #[.int .i64 A.x0, .int .i64 A.y0, .int .i64 A.x1, .int .i64 A.y1] 32)) := below_a1 _ _
  have K := Blk.new w 32 #[.int .i64 A.x0, .int .i64 A.y0, .int .i64 A.x1, .int .i64 A.y1]
  have CB := rbeyond_any (w.heap.size + 1) 4 4 [A.x0, A.y0, A.x1, A.y1] ((w.alloc (.cells #[.int .i64 A.x0, .int .i64 A.y0, .int .i64 A.x1, .int .i64 A.y1] 32)).alloc (.cells #[.int .i64 A.x0, .int .i64 A.y0, .int .i64 A.x1, .int .i64 A.y1] 3)) rfl (by decide) (by have := Blk.new (w.alloc (.cells #[.int .i64 A.x0, .int .i64 A.y0, .int .i64 A.x1, .int .i64 A.y1] 32)) 3 #[.int .i64 A.x0, .int .i64 A.y0, .int .i64 A.x1, .int .i64 A.y1]; rw [World.size_alloc] at this; exact this)
  rw [show [A.x0, A.y0, A.x1, A.y1].all (inZ (-16384) 16384) = in4 A from rfl, h4] at CB
  have CE := fun W => empty_any A W
  have q1 := fun w => neB_run A.x0 A.y0 A.x1 A.y1 0 0 0 0 w
  have q2 := fun x y w => neB_guard A.x0 A.y0 A.x1 A.y1 0 0 0 0 x y w
  have CA := fun W => area_near h4 he W
  rw [he] at CE
  clear h4 he
  generalize (A.x1 - A.x0) * (A.y1 - A.y0) = ar at *
  go_enter Try.func50, Try.ntmps50
  go_wp2_with (first | (go_at_call 59; ((with_reducible refine (CB).mono ?_); rintro e w' ⟨rfl, rfl⟩; have B := B.alloc B.size (.cells #[.int .i64 A.x0, .int .i64 A.y0, .int .i64 A.x1, .int .i64 A.y1] 3); have K := K.below (below_a1 _ (.cells #[.int .i64 A.x0, .int .i64 A.y0, .int .i64 A.x1, .int .i64 A.y1] 3)); have k0 := K.cell 0; have k1 := K.cell 1; have k2 := K.cell 2; have k3 := K.cell 3; have kl := K.lt; simp only [List.getElem?_toArray, List.getElem?_cons_succ, List.getElem?_cons_zero] at k0 k1 k2 k3)) | (go_at_call 60; ((with_reducible refine (CE _).mono ?_); rintro e w1 ⟨rfl, b1⟩; have B := B.trans (b1.mono B.size); have K := K.below b1; have k0 := K.cell 0; have k1 := K.cell 1; have k2 := K.cell 2; have k3 := K.cell 3; have kl := K.lt; simp only [List.getElem?_toArray, List.getElem?_cons_succ, List.getElem?_cons_zero] at k0 k1 k2 k3)) | (go_at_call 61; ((with_reducible refine (CA _).mono ?_); rintro e w1 ⟨rfl, b1⟩; have B := B.trans (b1.mono B.size); have K := K.below b1; have k0 := K.cell 0; have k1 := K.cell 1; have k2 := K.cell 2; have k3 := K.cell 3; have kl := K.lt; simp only [List.getElem?_toArray, List.getElem?_cons_succ, List.getElem?_cons_zero] at k0 k1 k2 k3)))
  exact bodyPost_ret (results_tmp2 rfl _ _ _) rfl ⟨rfl, B⟩
theorem rsize_any (A : Q) (w : World) : Calls Try.prog 50 #[.agg #[.int .i64 A.x0, .int .i64 A.y0, .int .i64 A.x1, .int .i64 A.y1]] w fun e w' => e = .returned (.tuple #[.int .i64 (if msB A then areaQ A else 0), .int .i64 (if msB A then 0 else 220)]) ∧ Below w.heap.size w w' := by
  unfold msB areaQ
  cases h4 : in4 A
  · exact size_far A h4 w
  · cases he : emptyQ A
    · simp only [Bool.false_eq_true, if_false, Bool.not_false, Bool.true_or, Bool.and_true, Bool.true_and, decide_eq_true_eq]
      by_cases hg : (A.x1 - A.x0) * (A.y1 - A.y0) ≤ 4194304
      · rw [if_pos hg, if_pos hg]; exact size_good A h4 he hg w
      · rw [if_neg hg, if_neg hg]; exact size_great A h4 he (by omega) w
    · cases hz : zerB A
      · exact size_odd A h4 he hz w
      · exact size_none A h4 he hz w
end Go.Proofs.Ytlbbigehjdnjmaa
