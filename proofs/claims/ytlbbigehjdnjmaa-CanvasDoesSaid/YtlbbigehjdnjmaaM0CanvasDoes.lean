/- Part 11 of the proof: CnP, CnQ, CnR. -/
import Derived.Deep.CutRange
import Derived.Test.YtlbbigehjdnjmaaCCn9

namespace Go.Proofs.Ytlbbigehjdnjmaa
open Go Go.RowKit
set_option linter.unusedVariables false
set_option linter.unusedSimpArgs false

/-- The reference's canvas at block q, its bytes at block g. -/
structure RCn (W : World) (q g wd ht : Nat) (E : List Value) : Prop where
  blk : Blk W q 42 #[.int .i64 (wd : Nat), .int .i64 (ht : Nat), .slice (some ⟨g, 0, none⟩) (wd * ht) (wd * ht)]
  row : Blk W g 5 E.toArray
  len : E.length = wd * ht
  b8 : Bytes8 E
  dim : (1 ≤ wd ∧ wd ≤ 4096) ∧ 1 ≤ ht ∧ ht ≤ 4096
theorem RCn.ne {W : World} {q g wd ht : Nat} {E : List Value} (h : RCn W q g wd ht E) : q ≠ g := cnblk_ne h.blk h.row (by decide)
theorem RCn.below {W V : World} {q g wd ht : Nat} {E : List Value} (h : RCn W q g wd ht E) (b : Below W.heap.size W V) : RCn V q g wd ht E := ⟨h.blk.below b, h.row.below b, h.len, h.b8, h.dim⟩
theorem RCn.only {W V : World} {q g wd ht : Nat} {E : List Value} {fp : List Nat} (h : RCn W q g wd ht E) (o : Only W V fp) (h1 : q ∉ fp) (h2 : g ∉ fp) : RCn V q g wd ht E := ⟨h.blk.only o h1, h.row.only o h2, h.len, h.b8, h.dim⟩
theorem RCn.sq {W : World} {q g wd ht : Nat} {E : List Value} (h : RCn W q g wd ht E) : wd * ht ≤ 16777216 := by
  have := Nat.mul_le_mul h.dim.1.2 h.dim.2.2
  omega
set_option maxRecDepth 100000 in
theorem rall_any (q g wd ht : Nat) (E : List Value) (w : World) (h : RCn w q g wd ht E) : Calls Try.prog 49 #[.pointer (some ⟨q, 0, none⟩)] w fun e w' => e = .returned (.agg #[.int .i64 0, .int .i64 0, .int .i64 (wd : Nat), .int .i64 (ht : Nat)]) ∧ Below w.heap.size w w' := by
  have K2 := Blk.new w 32 #[.int .i64 0, .int .i64 0, .int .i64 0, .int .i64 0]
  have rb := (h.blk.below (below_a1 w (.cells #[.int .i64 0, .int .i64 0, .int .i64 0, .int .i64 0] 32)))
  have hlt := h.blk.lt
  have a0 := rb.cell 0; have a1 := rb.cell 1; have a2 := rb.cell 2; have al := rb.lt; simp only [List.getElem?_toArray, List.getElem?_cons_succ, List.getElem?_cons_zero] at a0 a1 a2
  obtain ⟨w1, hw1⟩ : ∃ w1, w1 = w.alloc (.cells #[.int .i64 0, .int .i64 0, .int .i64 0, .int .i64 0] 32) := ⟨_, rfl⟩
  have B1 : Below w.heap.size w w1 := by rw [hw1]; exact below_a1 _ _
  rw [← hw1] at K2 a0 a1 a2 al
  have hq : q ∉ [w.heap.size] := by simp; omega
  have HD := Lib.hid (fun (X : World) (hX : Only w1 X [w.heap.size]) => And.intro ((only_cell hX (p := ⟨q, 0, none⟩) al hq).trans a0) (And.intro ((only_cell hX (p := ⟨q, 1, none⟩) al hq).trans a1) (And.intro ((only_cell hX (p := ⟨q, 2, none⟩) al hq).trans a2) (Nat.lt_of_lt_of_le al hX.size))))
  have HK2 := Lib.hid K2
  have HW := Lib.hid hw1
  have HB1 := Lib.hid B1
  clear rb a0 a1 a2 al h K2 hw1 B1 hlt hq
  go_enter Try.func49, Try.ntmps49
  go_wp2
  rw [← HW.out]
  have hI : Only w1 w1.drew [w.heap.size] := (Only.refl _ _).drew
  have K3 := HK2.out.below (show Below w1.heap.size w1 w1.drew from (Below.refl _ _).drew)
  have hS := only_row (g := w.heap.size) hI (.inl (by simp)) #[.int .i64 0, .int .i64 0, .int .i64 (wd : Nat), .int .i64 (ht : Nat)]
  refine wp_region_mix (fun V => Only w1 V [w.heap.size]) (Mx.qs [0, 1, 2, 3, 4, 5, 6, 7, 8] (.one 9 .leaf)) (by kernel_rfl) (by kernel_rfl) hI ?_
  simp only [Mx.qs]
  repeat (first
    | (refine MixL.skip (o := ?_) ?_ ?_ ?_; rotate_left; (focus (first | (simp only [List.getElem?_toArray, List.getElem?_cons_succ, List.getElem?_cons_zero]; with_reducible rfl) | (simp only [List.getElem?_toArray, List.getElem?_cons_zero]; with_reducible rfl))); (focus rfl); simp only [Act.put, List.setIfInBounds_toArray, List.set_cons_zero, List.set_cons_succ])
    | (refine MixL.val (o := ?_) (v := ?_) ?_ ?_ ?_ ?_ ?_; rotate_left 2; (focus (first | (simp only [List.getElem?_toArray, List.getElem?_cons_succ, List.getElem?_cons_zero]; with_reducible rfl) | (simp only [List.getElem?_toArray, List.getElem?_cons_zero]; with_reducible rfl))); (focus (intro _ _ h; cases h)); (focus rfl); (focus (intro w' hJ; obtain ⟨c0, c1, c2, cl⟩ := HD.out _ hJ; go_simp <;> with_reducible rfl)); simp only [Act.put, List.setIfInBounds_toArray, List.set_cons_zero, List.set_cons_succ]))
  refine MixL.store (o := ?_) (w1 := w1.drew.setRow w.heap.size #[.int .i64 0, .int .i64 0, .int .i64 (wd : Nat), .int .i64 (ht : Nat)]) ?_ ?_ ?_ ?_ ?_
  rotate_left 1
  (focus (first | (simp only [List.getElem?_toArray, List.getElem?_cons_succ, List.getElem?_cons_zero]; with_reducible rfl) | (simp only [List.getElem?_toArray, List.getElem?_cons_zero]; with_reducible rfl)))
  (focus rfl)
  (focus (refine exec_store_row 32 _ _ (by rfl) w.heap.size #[.int .i64 0, .int .i64 0, .int .i64 (wd : Nat), .int .i64 (ht : Nat)] (by rfl) (by rfl) 32 #[.int .i64 0, .int .i64 0, .int .i64 0, .int .i64 0] K3 bxInfo rfl (by simp [Value.oneCell'])))
  (focus (exact hS))
  simp only [Act.put, List.setIfInBounds_toArray, List.set_cons_zero, List.set_cons_succ]
  refine MixL.nil ?_
  go_wp2
  refine bodyPost_ret (results_cell_row Try.results49 _ _ w.heap.size 32 #[.int .i64 0, .int .i64 0, .int .i64 (wd : Nat), .int .i64 (ht : Nat)] (0, 0) _ (by rfl) (show Blk _ _ _ _ from blk_row K3 _) Try.underlying32 rfl bxInfo) rfl ⟨rfl, below_setRow (g := w.heap.size) HB1.out.drew (Nat.le_refl _) _⟩
def MadeR (w : World) (wd ht : Nat) (E : List Value) (e : Ending) (w' : World) : Prop := ∃ q g, e = .returned (.pointer (some ⟨q, 0, none⟩)) ∧ RCn w' q g wd ht E ∧ w.heap.size ≤ q ∧ w.heap.size ≤ g ∧ Below w.heap.size w w'
theorem map_one (n : Nat) (c : Int) : mapR 0 n (pntF c) (zrs n) = oneE n c := by
  apply List.ext_getElem?
  intro k
  rw [mapR_get]
  unfold zrs oneE
  rw [List.getElem?_replicate, List.getElem?_replicate]
  by_cases hk : k < n
  · rw [if_pos hk, if_pos hk, Option.map_some, if_pos ⟨Nat.zero_le _, hk⟩]; rfl
  · rw [if_neg hk, if_neg hk]; rfl
theorem one_b8r (n : Nat) {c : Int} (hc : inZ 0 255 c = true) : Bytes8 (oneE n c) := fun u hu => by
  unfold oneE at hu
  rw [List.eq_of_mem_replicate hu]
  exact in_b8 hc
set_option maxRecDepth 100000 in
set_option maxHeartbeats 1000000 in
theorem rcnew_ok (wd ht : Nat) (c : Int) (w : World) (h : mayCn wd ht c = true) : Calls Try.prog 11 #[.int .i64 (wd : Nat), .int .i64 (ht : Nat), .int .i64 c] w (MadeR w wd ht (oneE (wd * ht) c)) := by
  unfold mayCn at h
  simp only [Bool.and_eq_true] at h
  obtain ⟨⟨hx, hy⟩, hc⟩ := h
  have dx := inB_in hx
  have dy := inB_in hy
  have hsq := Nat.mul_le_mul (show wd ≤ 4096 by omega) (show ht ≤ 4096 by omega)
  obtain ⟨n, hn⟩ : ∃ n, n = wd * ht := ⟨_, rfl⟩
  have hn2 : n ≤ 16777216 := by omega
  have MK := fun W => make_cn n hn2 W
  have E1 := Lib.hid (show wrap64 ((wd : Int) * (ht : Int)) = (n : Int) from by rw [w64mul wd ht (by omega), hn])
  have c2 : c % 256 = c := by have := inB_in hc; omega
  have r1 := Blk.new (w.alloc (.cells (zrs n).toArray 5)) 42 #[.int .i64 (wd : Nat), .int .i64 (ht : Nat), .slice (some ⟨w.heap.size, 0, none⟩) n n]
  have r2 := (Blk.new w 5 (zrs n).toArray).below (below_a1 _ (.cells #[.int .i64 (wd : Nat), .int .i64 (ht : Nat), .slice (some ⟨w.heap.size, 0, none⟩) n n] 42))
  have B2 : Below w.heap.size w ((w.alloc (.cells (zrs n).toArray 5)).alloc (.cells #[.int .i64 (wd : Nat), .int .i64 (ht : Nat), .slice (some ⟨w.heap.size, 0, none⟩) n n] 42)) := below_a2 _ _ _
  rw [World.size_alloc] at r1
  obtain ⟨w1, hw1⟩ : ∃ w1, w1 = ((w.alloc (.cells (zrs n).toArray 5)).alloc (.cells #[.int .i64 (wd : Nat), .int .i64 (ht : Nat), .slice (some ⟨w.heap.size, 0, none⟩) n n] 42)) := ⟨_, rfl⟩
  rw [← hw1] at r1 r2 B2
  have HR1 := Lib.hid r1
  have HR2 := Lib.hid r2
  have HB2 := Lib.hid B2
  have HW := Lib.hid hw1
  have HD := Lib.hid (And.intro hn (And.intro dx (And.intro dy hc)))
  clear r1 r2 B2 hw1 hx hy hc dx dy hsq hn
  have e1 := E1.out
  go_enter Try.func11, Try.ntmps11
  go_wp2
  rw [← HW.out]
  clear e1
  go_loopw [8] (fun i wr => ∃ k : Nat, k ≤ n ∧ i = .int .i64 (k : Nat) ∧ Blk wr w.heap.size 5 (mapR 0 (0 + k) (pntF c) (zrs n)).toArray ∧ Only w1 wr [w.heap.size]) (fun i _ => n - (intOf i).toNat)
  case atStart => exact ⟨0, Nat.zero_le _, rfl, by rw [mapR_nil (by omega)]; exact HR2.out, Only.refl _ _⟩
  case round =>
    obtain ⟨k, hk, rfl, hbk, hok⟩ := hrel
    have HBK := Lib.hid hbk
    have HOK := Lib.hid hok
    have rq := HR1.out.only hok (by simp)
    have a2 : wr.cell? ⟨w.heap.size + 1, 2, none⟩ = some (.slice (some ⟨w.heap.size, 0, none⟩) n n) := (rq.cell 2).trans rfl
    have al := rq.lt
    have HRQ := Lib.hid rq
    clear hok rq
    by_cases hlt : k < n
    · have hd : (zrs n)[k]? = some (.int .u8 0) := by unfold zrs; rw [List.getElem?_replicate, if_pos hlt]
      have hcell : wr.cell? ⟨w.heap.size, k, none⟩ = some (.int .u8 0) := by rw [hbk.cell, List.getElem?_toArray, Nat.zero_add, mapR_still]; exact hd
      have hfr := hbk.frozen k
      have hlt2 := hbk.lt
      have HDk := Lib.hid hd
      clear hbk hd
      go_wp2
      go_roundw
      case rel =>
        refine ⟨k + 1, by omega, by go_num, ?_, HOK.out.set (.inl (by simp)) _⟩
        have := blk_set_list HBK.out k (.int .u8 c)
        rw [Nat.zero_add] at this
        rw [Nat.zero_add, mapR_step (Nat.zero_le _) _ _ HDk.out]
        exact this
      case measure => simp [intOf]; omega
    · obtain rfl : k = n := by omega
      go_wp2
      go_ret
      obtain ⟨h1, h2, h3, h4⟩ := HD.out
      have h5 := HBK.out
      rw [Nat.zero_add, map_one] at h5
      refine ⟨w.heap.size + 1, w.heap.size, rfl, ⟨by rw [← h1]; exact HRQ.out, by rw [← h1]; exact h5, by simp [oneE], one_b8r _ h4, ⟨⟨by omega, by omega⟩, by omega, by omega⟩⟩, Nat.le_succ _, Nat.le_refl _, HB2.out.trans (HOK.out.to_below HB2.out.size (by simp))⟩
end Go.Proofs.Ytlbbigehjdnjmaa

namespace Go.Proofs.Ytlbbigehjdnjmaa
open Go Go.RowKit
set_option linter.unusedVariables false
set_option linter.unusedSimpArgs false

set_option maxRecDepth 100000 in
theorem rcat_x0 (q g wd ht : Nat) (E : List Value) (x y : Int) (w : World) (h : RCn w q g wd ht E) (h0 : x < 0) : Calls Try.prog 17 #[.pointer (some ⟨q, 0, none⟩), .int .i64 x, .int .i64 y] w fun e w' => e = .returned (.int .i64 0) ∧ Below w.heap.size w w' := by
  have rb := h.blk
  have a0 := rb.cell 0; have a1 := rb.cell 1; have a2 := rb.cell 2; have al := rb.lt; simp only [List.getElem?_toArray, List.getElem?_cons_succ, List.getElem?_cons_zero] at a0 a1 a2
  clear rb h
  go_enter Try.func17, Try.ntmps17
  go_wp2
  go_ret
  exact ⟨rfl, Below.refl _ _⟩
set_option maxRecDepth 100000 in
theorem rcat_x1 (q g wd ht : Nat) (E : List Value) (x y : Int) (w : World) (h : RCn w q g wd ht E) (h0 : 0 ≤ x) (h1 : (wd : Int) ≤ x) : Calls Try.prog 17 #[.pointer (some ⟨q, 0, none⟩), .int .i64 x, .int .i64 y] w fun e w' => e = .returned (.int .i64 0) ∧ Below w.heap.size w w' := by
  have rb := h.blk
  have a0 := rb.cell 0; have a1 := rb.cell 1; have a2 := rb.cell 2; have al := rb.lt; simp only [List.getElem?_toArray, List.getElem?_cons_succ, List.getElem?_cons_zero] at a0 a1 a2
  clear rb h
  go_enter Try.func17, Try.ntmps17
  go_wp2
  go_ret
  exact ⟨rfl, Below.refl _ _⟩
set_option maxRecDepth 100000 in
theorem rcat_y0 (q g wd ht : Nat) (E : List Value) (x y : Int) (w : World) (h : RCn w q g wd ht E) (h0 : 0 ≤ x) (h1 : x < (wd : Int)) (h2 : y < 0) : Calls Try.prog 17 #[.pointer (some ⟨q, 0, none⟩), .int .i64 x, .int .i64 y] w fun e w' => e = .returned (.int .i64 0) ∧ Below w.heap.size w w' := by
  have rb := h.blk
  have a0 := rb.cell 0; have a1 := rb.cell 1; have a2 := rb.cell 2; have al := rb.lt; simp only [List.getElem?_toArray, List.getElem?_cons_succ, List.getElem?_cons_zero] at a0 a1 a2
  clear rb h
  go_enter Try.func17, Try.ntmps17
  go_wp2
  go_ret
  exact ⟨rfl, Below.refl _ _⟩
set_option maxRecDepth 100000 in
theorem rcat_y1 (q g wd ht : Nat) (E : List Value) (x y : Int) (w : World) (h : RCn w q g wd ht E) (h0 : 0 ≤ x) (h1 : x < (wd : Int)) (h2 : 0 ≤ y) (h3 : (ht : Int) ≤ y) : Calls Try.prog 17 #[.pointer (some ⟨q, 0, none⟩), .int .i64 x, .int .i64 y] w fun e w' => e = .returned (.int .i64 0) ∧ Below w.heap.size w w' := by
  have rb := h.blk
  have a0 := rb.cell 0; have a1 := rb.cell 1; have a2 := rb.cell 2; have al := rb.lt; simp only [List.getElem?_toArray, List.getElem?_cons_succ, List.getElem?_cons_zero] at a0 a1 a2
  clear rb h
  go_enter Try.func17, Try.ntmps17
  go_wp2
  go_ret
  exact ⟨rfl, Below.refl _ _⟩
set_option maxRecDepth 100000 in
theorem rcat_yes (q g wd ht x y : Nat) (E : List Value) (w : World) (h : RCn w q g wd ht E) (hx : x < wd) (hy : y < ht) : Calls Try.prog 17 #[.pointer (some ⟨q, 0, none⟩), .int .i64 (x : Nat), .int .i64 (y : Nat)] w fun e w' => e = .returned (.int .i64 (ub (E.getD (y * wd + x) (.int .u8 0)))) ∧ Below w.heap.size w w' := by
  have h1 : (y + 1) * wd ≤ ht * wd := Nat.mul_le_mul_right wd hy
  rw [Nat.add_mul, Nat.one_mul, Nat.mul_comm ht wd] at h1
  have hsq := h.sq
  obtain ⟨m, hm⟩ : ∃ m, m = y * wd := ⟨_, rfl⟩
  obtain ⟨k, hk⟩ : ∃ k, k = y * wd + x := ⟨_, rfl⟩
  have hkl : k < wd * ht := by omega
  have hg0 : E[k]? = some (E[k]'(by rw [h.len]; exact hkl)) := List.getElem?_eq_getElem _
  have hv := (b8_in (h.b8 _ (List.getElem_mem (by rw [h.len]; exact hkl : k < E.length))))
  rw [← hk, show E.getD k (.int .u8 0) = E[k]'(by rw [h.len]; exact hkl) by rw [List.getD_eq_getElem?_getD, hg0, Option.getD_some]]
  generalize E[k]'(by rw [h.len]; exact hkl) = v at *
  obtain ⟨ev, hvi⟩ := hv
  have hc : w.cell? ⟨g, k, none⟩ = some (.int .u8 (ub v)) := by rw [← ev, h.row.cell, List.getElem?_toArray]; exact hg0
  have hgl := h.row.lt
  obtain ⟨v1, v2⟩ := inB_in hvi
  have E3 := Lib.hid (show IntKind.i64.wrap ((y : Int) * (wd : Int)) = (m : Int) from by rw [IntWalk.i64_in _ (by rw [← Int.natCast_mul]; omega), ← Int.natCast_mul, hm])
  have E4 := Lib.hid (show IntKind.i64.wrap ((m : Int) + (x : Int)) = (k : Int) from by rw [w64sumk m x (by omega), hk, hm])
  obtain ⟨n, hn⟩ : ∃ n, n = wd * ht := ⟨_, rfl⟩
  have rb := h.blk
  rw [← hn] at rb hkl
  have a0 := rb.cell 0; have a1 := rb.cell 1; have a2 := rb.cell 2; have al := rb.lt; simp only [List.getElem?_toArray, List.getElem?_cons_succ, List.getElem?_cons_zero] at a0 a1 a2
  have HD := Lib.hid (fun (X : World) (hX : Below w.heap.size w X) => And.intro ((hX.cell (p := ⟨q, 0, none⟩) al).trans a0) (And.intro ((hX.cell (p := ⟨q, 1, none⟩) al).trans a1) (And.intro ((hX.cell (p := ⟨q, 2, none⟩) al).trans a2) (And.intro (Nat.lt_of_lt_of_le al hX.size) (And.intro ((hX.cell (p := ⟨g, k, none⟩) hgl).trans hc) (Nat.lt_of_lt_of_le hgl hX.size))))))
  clear rb h h1 hsq hm hk hg0 ev hvi hn
  generalize ub v = u at *
  go_enter Try.func17, Try.ntmps17
  go_wp2
  clear a0 a1 a2 al hc hgl
  have hI : Below w.heap.size w w.drew := (Below.refl _ _).drew
  refine wp_region_chain (fun V => Below w.heap.size w V) [(0, false), (1, false), (2, false), (3, false), (4, false), (5, false), (6, false), (7, false), (8, false), (9, false), (10, false), (11, false), (12, false), (13, false), (14, false), (15, false)] (by kernel_rfl) (by kernel_rfl) hI ?_
  repeat (first
    | (refine ChainL.skip (o := ?_) ?_ ?_ ?_; rotate_left; (focus (first | (simp only [List.getElem?_toArray, List.getElem?_cons_succ, List.getElem?_cons_zero]; with_reducible rfl) | (simp only [List.getElem?_toArray, List.getElem?_cons_zero]; with_reducible rfl))); (focus rfl); simp only [Act.put, List.setIfInBounds_toArray, List.set_cons_zero, List.set_cons_succ])
    | (refine ChainL.val (o := ?_) (v := ?_) ?_ ?_ ?_ ?_ ?_; rotate_left 2; (focus (first | (simp only [List.getElem?_toArray, List.getElem?_cons_succ, List.getElem?_cons_zero]; with_reducible rfl) | (simp only [List.getElem?_toArray, List.getElem?_cons_zero]; with_reducible rfl))); (focus (intro _ _ h; cases h)); (focus rfl); (focus (intro w' hJ; obtain ⟨c0, c1, c2, cl, c5, c6⟩ := HD.out _ hJ; have e3 := E3.out; have e4 := E4.out; go_simp <;> with_reducible rfl)); simp only [Act.put, List.setIfInBounds_toArray, List.set_cons_zero, List.set_cons_succ]))
  refine ChainL.nil ?_
  go_wp2
  go_ret
  exact ⟨ret_int (IntWalk.i64_in _ (by omega)), hI⟩
theorem rcat_any (q g wd ht : Nat) (E : List Value) (x y : Int) (w : World) (h : RCn w q g wd ht E) : Calls Try.prog 17 #[.pointer (some ⟨q, 0, none⟩), .int .i64 x, .int .i64 y] w fun e w' => e = .returned (.int .i64 (atC wd ht E x y)) ∧ Below w.heap.size w w' := by
  unfold atC
  by_cases h0 : 0 ≤ x
  · by_cases h1 : x < (wd : Int)
    · by_cases h2 : 0 ≤ y
      · by_cases h3 : y < (ht : Int)
        · rw [if_pos ⟨h0, h1, h2, h3⟩]
          obtain ⟨a, rfl⟩ : ∃ a : Nat, x = a := ⟨x.toNat, by omega⟩
          obtain ⟨b, rfl⟩ : ∃ b : Nat, y = b := ⟨y.toNat, by omega⟩
          exact rcat_yes q g wd ht a b E w h (by omega) (by omega)
        · rw [if_neg (by omega)]; exact rcat_y1 q g wd ht E x y w h h0 h1 h2 (by omega)
      · rw [if_neg (by omega)]; exact rcat_y0 q g wd ht E x y w h h0 h1 (by omega)
    · rw [if_neg (by omega)]; exact rcat_x1 q g wd ht E x y w h h0 (by omega)
  · rw [if_neg (by omega)]; exact rcat_x0 q g wd ht E x y w h (by omega)
/-- What the two calls ahead of the loops leave: the box that both have in common lies at block p7. -/
theorem cnrow_get {wd ht X0 X1 Y0 : Nat} {f : Nat → Nat → Value → Value} {E : List Value} (k : Nat) : (rowsR wd X0 X1 Y0 f k E).length = E.length := rowsR_len _ _ _ _ _ _ _
end Go.Proofs.Ytlbbigehjdnjmaa

namespace Go.Proofs.Ytlbbigehjdnjmaa
open Go Go.RowKit
set_option linter.unusedVariables false
set_option linter.unusedSimpArgs false

set_option maxRecDepth 100000 in
set_option maxHeartbeats 2000000 in
theorem rcfill_raw (q g wd ht : Nat) (E : List Value) (B : Q) (c : Int) (X0 Y0 X1 Y1 : Nat) (w : World) (h : RCn w q g wd ht E) (hR : meetR ⟨0, 0, wd, ht⟩ B = ⟨X0, Y0, X1, Y1⟩) (hX : X0 ≤ X1 ∧ X1 ≤ wd ∧ (Y0 < Y1 → X0 < X1)) (hY : Y0 ≤ Y1 ∧ Y1 ≤ ht) (hc : inZ 0 255 c = true) :
    Calls Try.prog 32 #[.pointer (some ⟨q, 0, none⟩), .agg #[.int .i64 B.x0, .int .i64 B.y0, .int .i64 B.x1, .int .i64 B.y1], .int .i64 c] w fun e w' => e = .returned (.agg #[.int .i64 (X0 : Nat), .int .i64 (Y0 : Nat), .int .i64 (X1 : Nat), .int .i64 (Y1 : Nat)]) ∧ RCn w' q g wd ht (rowsR wd X0 X1 Y0 (fun _ => pntF c) (Y1 - Y0) E) ∧ Only w w' [g] := by
  obtain ⟨B0, hB0⟩ : ∃ B0 : Q, B0 = ⟨0, 0, wd, ht⟩ := ⟨_, rfl⟩
  have CM := fun W => rmeet_any B0 B W
  rw [hB0, hR] at CM
  dsimp only at CM
  have HSQ := Lib.hid h.sq
  have hw2 : Below w.heap.size w ((w.alloc (.cells #[.int .i64 B.x0, .int .i64 B.y0, .int .i64 B.x1, .int .i64 B.y1] 32)).alloc (.cells #[.int .i64 0, .int .i64 0, .int .i64 0, .int .i64 0] 32)) := below_a2 _ _ _
  have HC2 := Lib.hid (h.below hw2)
  have K4 := (Blk.new w 32 #[.int .i64 B.x0, .int .i64 B.y0, .int .i64 B.x1, .int .i64 B.y1]).below (below_a1 _ (.cells #[.int .i64 0, .int .i64 0, .int .i64 0, .int .i64 0] 32))
  have K6 := Blk.new (w.alloc (.cells #[.int .i64 B.x0, .int .i64 B.y0, .int .i64 B.x1, .int .i64 B.y1] 32)) 32 #[.int .i64 0, .int .i64 0, .int .i64 0, .int .i64 0]
  rw [World.size_alloc] at K6
  have HX := Lib.hid hX
  have HY := Lib.hid hY
  have HH := Lib.hid h
  have HC := Lib.hid hc
  have HKB := Lib.hid (pnt_keep c wd X0 X1 Y0 Y1 hc)
  have c2 : c % 256 = c := by have := inB_in hc; omega
  have hn6 : q ≠ w.heap.size + 1 ∧ g ≠ w.heap.size + 1 := by
    have h1 := h.blk.lt
    have h2 := h.row.lt
    omega
  have HNQ := Lib.hid hn6
  obtain ⟨w2, hw2e⟩ : ∃ w2, w2 = ((w.alloc (.cells #[.int .i64 B.x0, .int .i64 B.y0, .int .i64 B.x1, .int .i64 B.y1] 32)).alloc (.cells #[.int .i64 0, .int .i64 0, .int .i64 0, .int .i64 0] 32)) := ⟨_, rfl⟩
  rw [← hw2e] at HC2 K4 K6 hw2
  have k0 := K4.cell 0; have k1 := K4.cell 1; have k2 := K4.cell 2; have k3 := K4.cell 3; have kl := K4.lt
  simp only [List.getElem?_toArray, List.getElem?_cons_succ, List.getElem?_cons_zero] at k0 k1 k2 k3
  have HD := Lib.hid (fun (X : World) (hX : Below w2.heap.size w2 X) => And.intro ((hX.cell (p := ⟨w.heap.size, 0, none⟩) kl).trans k0) (And.intro ((hX.cell (p := ⟨w.heap.size, 1, none⟩) kl).trans k1) (And.intro ((hX.cell (p := ⟨w.heap.size, 2, none⟩) kl).trans k2) (And.intro ((hX.cell (p := ⟨w.heap.size, 3, none⟩) kl).trans k3) (Nat.lt_of_lt_of_le kl hX.size)))))
  have CA := fun (V : World) (hV : Below w2.heap.size w2 V) => rall_any q g wd ht E V (HC2.out.below hV)
  have HK6 := Lib.hid K6
  have HW2 := Lib.hid hw2
  have HW2E := Lib.hid hw2e
  clear h hR hB0 hX hY hc hn6 k0 k1 k2 k3 kl K4 K6 hw2 hw2e
  go_enter Try.func32, Try.ntmps32
  go_upto_region 1 with fail
  rw [← HW2E.out]
  go_cut [7] from 10 (fun p wx => ∃ p7 : Nat, p = .pointer (some ⟨p7, 0, none⟩) ∧ Hid (Blk wx p7 32 #[.int .i64 (X0 : Nat), .int .i64 (Y0 : Nat), .int .i64 (X1 : Nat), .int .i64 (Y1 : Nat)] ∧ Below w2.heap.size w2 wx ∧ w2.heap.size ≤ p7))
  case first =>
    have hI : Below w2.heap.size w2 w2.drew := (Below.refl _ _).drew
    refine wp_region_mix (fun V => Below w2.heap.size w2 V) (Mx.qs [0, 2] (.two 1 4 (.two 3 4 (.one 4 (.one 5 .leaf)) (.one 3 (.one 5 .leaf))) (.one 1 (.one 3 (.one 5 .leaf))))) (by kernel_rfl) (by kernel_rfl) hI ?_
    simp only [Mx.qs]
    repeat (first
      | (refine MixL.skip (o := ?_) ?_ ?_ ?_; rotate_left; (focus (first | (simp only [List.getElem?_toArray, List.getElem?_cons_succ, List.getElem?_cons_zero]; with_reducible rfl) | (simp only [List.getElem?_toArray, List.getElem?_cons_zero]; with_reducible rfl))); (focus rfl); simp only [Act.put, List.setIfInBounds_toArray, List.set_cons_zero, List.set_cons_succ])
      | (refine MixL.val (o := ?_) (v := ?_) ?_ ?_ ?_ ?_ ?_; rotate_left 2; (focus (first | (simp only [List.getElem?_toArray, List.getElem?_cons_succ, List.getElem?_cons_zero]; with_reducible rfl) | (simp only [List.getElem?_toArray, List.getElem?_cons_zero]; with_reducible rfl))); (focus (intro _ _ h; cases h)); (focus rfl); (focus (intro w' hJ; obtain ⟨d0, d1, d2, d3, dl⟩ := HD.out _ hJ; go_simp <;> with_reducible rfl)); simp only [Act.put, List.setIfInBounds_toArray, List.set_cons_zero, List.set_cons_succ]))
    refine MixL.both ?_ ?_
    · refine MixL.call (o := ?_) (f := ?_) (args := ?_) ?_ ?_ ?_ ?_
      rotate_left 3
      (focus (first | (simp only [List.getElem?_toArray, List.getElem?_cons_succ, List.getElem?_cons_zero]; with_reducible rfl) | (simp only [List.getElem?_toArray, List.getElem?_cons_zero]; with_reducible rfl)))
      (focus rfl)
      (focus (go_simp; (constructor <;> with_reducible rfl)))
      with_reducible refine (CA _ hI).mono ?_
      rintro e wa ⟨rfl, ba⟩; have hI1 := hI.trans (ba.mono hI.size); refine ⟨_, rfl, hI1, ?_⟩
      simp only [Act.put, List.setIfInBounds_toArray, List.set_cons_zero, List.set_cons_succ]
      refine MixL.both ?_ ?_
      · refine MixL.call (o := ?_) (f := ?_) (args := ?_) ?_ ?_ ?_ ?_
        rotate_left 3
        (focus (first | (simp only [List.getElem?_toArray, List.getElem?_cons_succ, List.getElem?_cons_zero]; with_reducible rfl) | (simp only [List.getElem?_toArray, List.getElem?_cons_zero]; with_reducible rfl)))
        (focus rfl)
        (focus (go_simp; (constructor <;> with_reducible rfl)))
        with_reducible refine (CM _).mono ?_
        rintro e wb ⟨rfl, bb⟩; have hI3 := hI1.trans (bb.mono hI1.size); refine ⟨_, rfl, hI3, ?_⟩
        simp only [Act.put, List.setIfInBounds_toArray, List.set_cons_zero, List.set_cons_succ]
        have hI4 := hI3.alloc hI3.size (.cells #[.int .i64 0, .int .i64 0, .int .i64 0, .int .i64 0] 32)
        have K7 := Blk.new wb 32 #[.int .i64 0, .int .i64 0, .int .i64 0, .int .i64 0]
        have hs := below_setRow hI4 hI3.size #[.int .i64 (X0 : Nat), .int .i64 (Y0 : Nat), .int .i64 (X1 : Nat), .int .i64 (Y1 : Nat)]
        refine MixL.does (o := ?_) (v := ?_) (w1 := ?_) ?_ ?_ ?_ ?_ ?_
        rotate_left 3
        (focus (first | (simp only [List.getElem?_toArray, List.getElem?_cons_succ, List.getElem?_cons_zero]; with_reducible rfl) | (simp only [List.getElem?_toArray, List.getElem?_cons_zero]; with_reducible rfl)))
        (focus rfl)
        (focus (go_simp; (constructor <;> with_reducible rfl)))
        (focus (exact hI4))
        simp only [Act.put, List.setIfInBounds_toArray, List.set_cons_zero, List.set_cons_succ]
        refine MixL.store (o := ?_) (w1 := (wb.alloc (.cells #[.int .i64 0, .int .i64 0, .int .i64 0, .int .i64 0] 32)).setRow wb.heap.size #[.int .i64 (X0 : Nat), .int .i64 (Y0 : Nat), .int .i64 (X1 : Nat), .int .i64 (Y1 : Nat)]) ?_ ?_ ?_ ?_ ?_
        rotate_left 1
        (focus (first | (simp only [List.getElem?_toArray, List.getElem?_cons_succ, List.getElem?_cons_zero]; with_reducible rfl) | (simp only [List.getElem?_toArray, List.getElem?_cons_zero]; with_reducible rfl)))
        (focus rfl)
        (focus (refine exec_store_row 32 _ _ (by rfl) wb.heap.size #[.int .i64 (X0 : Nat), .int .i64 (Y0 : Nat), .int .i64 (X1 : Nat), .int .i64 (Y1 : Nat)] (by rfl) (by rfl) 32 #[.int .i64 0, .int .i64 0, .int .i64 0, .int .i64 0] K7 bxInfo rfl (by simp [Value.oneCell'])))
        (focus (exact hs))
        simp only [Act.put, List.setIfInBounds_toArray, List.set_cons_zero, List.set_cons_succ]
        refine MixL.nil ?_
        go_wp2
        go_meet
        exact ⟨wb.heap.size, rfl, Lib.hid ⟨blk_row K7 _, hs, hI3.size⟩⟩
      · have hI4 := hI1.alloc hI1.size (.cells #[.int .i64 0, .int .i64 0, .int .i64 0, .int .i64 0] 32)
        refine MixL.does (o := ?_) (v := ?_) (w1 := ?_) ?_ ?_ ?_ ?_ ?_
        rotate_left 3
        (focus (first | (simp only [List.getElem?_toArray, List.getElem?_cons_succ, List.getElem?_cons_zero]; with_reducible rfl) | (simp only [List.getElem?_toArray, List.getElem?_cons_zero]; with_reducible rfl)))
        (focus rfl)
        (focus (go_simp; (constructor <;> with_reducible rfl)))
        (focus (exact hI4))
        simp only [Act.put, List.setIfInBounds_toArray, List.set_cons_zero, List.set_cons_succ]
        refine MixL.call (o := ?_) (f := ?_) (args := ?_) ?_ ?_ ?_ ?_
        rotate_left 3
        (focus (first | (simp only [List.getElem?_toArray, List.getElem?_cons_succ, List.getElem?_cons_zero]; with_reducible rfl) | (simp only [List.getElem?_toArray, List.getElem?_cons_zero]; with_reducible rfl)))
        (focus rfl)
        (focus (go_simp; (constructor <;> with_reducible rfl)))
        with_reducible refine (CM _).mono ?_
        rintro e wb ⟨rfl, bb⟩; have hI3 := hI4.trans (bb.mono hI4.size); refine ⟨_, rfl, hI3, ?_⟩
        simp only [Act.put, List.setIfInBounds_toArray, List.set_cons_zero, List.set_cons_succ]
        have K7 := (Blk.new wa 32 #[.int .i64 0, .int .i64 0, .int .i64 0, .int .i64 0]).below bb
        have hs := below_setRow hI3 hI1.size #[.int .i64 (X0 : Nat), .int .i64 (Y0 : Nat), .int .i64 (X1 : Nat), .int .i64 (Y1 : Nat)]
        refine MixL.store (o := ?_) (w1 := wb.setRow wa.heap.size #[.int .i64 (X0 : Nat), .int .i64 (Y0 : Nat), .int .i64 (X1 : Nat), .int .i64 (Y1 : Nat)]) ?_ ?_ ?_ ?_ ?_
        rotate_left 1
        (focus (first | (simp only [List.getElem?_toArray, List.getElem?_cons_succ, List.getElem?_cons_zero]; with_reducible rfl) | (simp only [List.getElem?_toArray, List.getElem?_cons_zero]; with_reducible rfl)))
        (focus rfl)
        (focus (refine exec_store_row 32 _ _ (by rfl) wa.heap.size #[.int .i64 (X0 : Nat), .int .i64 (Y0 : Nat), .int .i64 (X1 : Nat), .int .i64 (Y1 : Nat)] (by rfl) (by rfl) 32 #[.int .i64 0, .int .i64 0, .int .i64 0, .int .i64 0] K7 bxInfo rfl (by simp [Value.oneCell'])))
        (focus (exact hs))
        simp only [Act.put, List.setIfInBounds_toArray, List.set_cons_zero, List.set_cons_succ]
        refine MixL.nil ?_
        go_wp2
        go_meet
        exact ⟨wa.heap.size, rfl, Lib.hid ⟨blk_row K7 _, hs, hI1.size⟩⟩
    · have hI4 := ((Below.refl w2.heap.size w2).alloc (Nat.le_refl _) (.cells #[.int .i64 0, .int .i64 0, .int .i64 0, .int .i64 0] 32)).drew
      refine MixL.does (o := ?_) (v := ?_) (w1 := ?_) ?_ ?_ ?_ ?_ ?_
      rotate_left 3
      (focus (first | (simp only [List.getElem?_toArray, List.getElem?_cons_succ, List.getElem?_cons_zero]; with_reducible rfl) | (simp only [List.getElem?_toArray, List.getElem?_cons_zero]; with_reducible rfl)))
      (focus rfl)
      (focus (go_simp; (constructor <;> with_reducible rfl)))
      (focus (exact hI4))
      simp only [Act.put, List.setIfInBounds_toArray, List.set_cons_zero, List.set_cons_succ]
      refine MixL.call (o := ?_) (f := ?_) (args := ?_) ?_ ?_ ?_ ?_
      rotate_left 3
      (focus (first | (simp only [List.getElem?_toArray, List.getElem?_cons_succ, List.getElem?_cons_zero]; with_reducible rfl) | (simp only [List.getElem?_toArray, List.getElem?_cons_zero]; with_reducible rfl)))
      (focus rfl)
      (focus (go_simp; (constructor <;> with_reducible rfl)))
      with_reducible refine (CA _ hI4).mono ?_
      rintro e wa ⟨rfl, ba⟩; have hI1 := hI4.trans (ba.mono hI4.size); refine ⟨_, rfl, hI1, ?_⟩
      simp only [Act.put, List.setIfInBounds_toArray, List.set_cons_zero, List.set_cons_succ]
      refine MixL.call (o := ?_) (f := ?_) (args := ?_) ?_ ?_ ?_ ?_
      rotate_left 3
      (focus (first | (simp only [List.getElem?_toArray, List.getElem?_cons_succ, List.getElem?_cons_zero]; with_reducible rfl) | (simp only [List.getElem?_toArray, List.getElem?_cons_zero]; with_reducible rfl)))
      (focus rfl)
      (focus (go_simp; (constructor <;> with_reducible rfl)))
      with_reducible refine (CM _).mono ?_
      rintro e wb ⟨rfl, bb⟩; have hI3 := hI1.trans (bb.mono hI1.size); refine ⟨_, rfl, hI3, ?_⟩
      simp only [Act.put, List.setIfInBounds_toArray, List.set_cons_zero, List.set_cons_succ]
      have K7 := Blk.below (Blk.below (show Blk (w2.drew.alloc (.cells #[.int .i64 0, .int .i64 0, .int .i64 0, .int .i64 0] 32)) w2.heap.size 32 #[.int .i64 0, .int .i64 0, .int .i64 0, .int .i64 0] from Blk.new w2.drew 32 #[.int .i64 0, .int .i64 0, .int .i64 0, .int .i64 0]) ba) bb
      have hs := below_setRow hI3 (Nat.le_refl _) #[.int .i64 (X0 : Nat), .int .i64 (Y0 : Nat), .int .i64 (X1 : Nat), .int .i64 (Y1 : Nat)]
      refine MixL.store (o := ?_) (w1 := wb.setRow w2.heap.size #[.int .i64 (X0 : Nat), .int .i64 (Y0 : Nat), .int .i64 (X1 : Nat), .int .i64 (Y1 : Nat)]) ?_ ?_ ?_ ?_ ?_
      rotate_left 1
      (focus (first | (simp only [List.getElem?_toArray, List.getElem?_cons_succ, List.getElem?_cons_zero]; with_reducible rfl) | (simp only [List.getElem?_toArray, List.getElem?_cons_zero]; with_reducible rfl)))
      (focus rfl)
      (focus (refine exec_store_row 32 _ _ (by rfl) w2.heap.size #[.int .i64 (X0 : Nat), .int .i64 (Y0 : Nat), .int .i64 (X1 : Nat), .int .i64 (Y1 : Nat)] (by rfl) (by rfl) 32 #[.int .i64 0, .int .i64 0, .int .i64 0, .int .i64 0] K7 bxInfo rfl (by simp [Value.oneCell'])))
      (focus (exact hs))
      simp only [Act.put, List.setIfInBounds_toArray, List.set_cons_zero, List.set_cons_succ]
      refine MixL.nil ?_
      go_wp2
      go_meet
      exact ⟨w2.heap.size, rfl, Lib.hid ⟨blk_row K7 _, hs, Nat.le_refl _⟩⟩
  case rest =>
    obtain ⟨p7, rfl, HF⟩ := hcut
    have hF := HF.out
    have HK7 := Lib.hid hF.1
    have HBW := Lib.hid hF.2.1
    have HP7 := Lib.hid hF.2.2
    have HCW := Lib.hid (HC2.out.below hF.2.1)
    have hne7 : p7 ≠ g := cnblk_ne hF.1 HCW.out.row (by decide)
    have hqg : q ≠ g := HCW.out.ne
    have k0 := HK7.out.cell 0; have k1 := HK7.out.cell 1; have k2 := HK7.out.cell 2; have k3 := HK7.out.cell 3; have kl := HK7.out.lt
    simp only [List.getElem?_toArray, List.getElem?_cons_succ, List.getElem?_cons_zero] at k0 k1 k2 k3
    clear HF hF
    go_wp2
    clear k0 k1 k2 k3 kl
    go_loopw [8, 9] (fun y _ wr => ∃ k : Nat, k ≤ Y1 - Y0 ∧ y = .int .i64 ((Y0 + k : Nat) : Int) ∧ RCn wr q g wd ht (rowsR wd X0 X1 Y0 (fun _ => pntF c) k E) ∧ Only wc wr [g]) (fun y _ _ => Y1 - (intOf y).toNat)
    case atStart => exact ⟨0, Nat.zero_le _, rfl, HCW.out, Only.refl _ _⟩
    case round =>
      obtain ⟨k, hk, rfl, hcr, hor⟩ := hrel
      have HCR := Lib.hid hcr
      have HOR := Lib.hid hor
      have K7r := HK7.out.only hor (by simp [hne7])
      have k0 := K7r.cell 0; have k1 := K7r.cell 1; have k2 := K7r.cell 2; have k3 := K7r.cell 3; have kl := K7r.lt
      simp only [List.getElem?_toArray, List.getElem?_cons_succ, List.getElem?_cons_zero] at k0 k1 k2 k3
      clear hcr hor K7r
      have hYY := HY.out
      by_cases hlt : k < Y1 - Y0
      · obtain ⟨Y, hYe⟩ : ∃ Y, Y = Y0 + k := ⟨_, rfl⟩
        rw [← hYe]
        have hd0 : decide ((Y : Int) < (Y1 : Int)) = true := by simp; omega
        have hyl : Y < Y1 := by omega
        have hin := Nat.mul_le_mul_right wd (show Y + 1 ≤ ht by omega)
        rw [Nat.add_mul, Nat.one_mul, Nat.mul_comm ht wd] at hin
        obtain ⟨m, hm⟩ : ∃ m, m = Y * wd := ⟨_, rfl⟩
        rw [← hm] at hin
        have HIN := Lib.hid hin
        have hsq := HSQ.out
        obtain ⟨⟨_, z1⟩, _, z2⟩ := HH.out.dim
        have EM := Lib.hid (show IntKind.i64.wrap ((Y : Int) * (wd : Int)) = (m : Int) from by rw [IntWalk.i64_in _ (by rw [← Int.natCast_mul, ← hm]; omega), ← Int.natCast_mul, hm])
        have EY := Lib.hid (w64one Y (by omega))
        have HM := Lib.hid (And.intro hm hYe)
        clear hm hYe hin hsq z1 z2 hYY
        go_wp2
        clear k0 k1 k2 k3 kl
        go_loopw [9] (fun x wr2 => ∃ j : Nat, j ≤ X1 - X0 ∧ x = .int .i64 ((X0 + j : Nat) : Int) ∧ Blk wr2 q 42 #[.int .i64 (wd : Nat), .int .i64 (ht : Nat), .slice (some ⟨g, 0, none⟩) (wd * ht) (wd * ht)] ∧ Blk wr2 g 5 (mapR (m + X0) (m + X0 + j) ((fun _ => pntF c) Y) (rowsR wd X0 X1 Y0 (fun _ => pntF c) k E)).toArray ∧ Only wc wr2 [g]) (fun x _ => X1 - (intOf x).toNat)
        case atStart => exact ⟨0, Nat.zero_le _, rfl, HCR.out.blk, by rw [mapR_nil (by omega)]; exact HCR.out.row, HOR.out⟩
        case round =>
          obtain ⟨j, hj, rfl, hbq, hbg, hoi⟩ := hrel
          have HBQ := Lib.hid hbq
          have HBG := Lib.hid hbg
          have HOI := Lib.hid hoi
          have K7i := HK7.out.only hoi (by simp [hne7])
          have k0 := K7i.cell 0; have k1 := K7i.cell 1; have k2 := K7i.cell 2; have k3 := K7i.cell 3; have kl := K7i.lt
          have a0 := hbq.cell 0; have a1 := hbq.cell 1; have a2 := hbq.cell 2; have al := hbq.lt
          simp only [List.getElem?_toArray, List.getElem?_cons_succ, List.getElem?_cons_zero] at k0 k1 k2 k3 a0 a1 a2
          have hXX := HX.out
          by_cases hjl : j < X1 - X0
          · obtain ⟨x, hx⟩ : ∃ x, x = X0 + j := ⟨_, rfl⟩
            rw [← hx]
            have hd1 : decide ((x : Int) < (X1 : Int)) = true := by simp; omega
            have hxl : x < X1 := by omega
            have hin := HIN.out
            have hsq := HSQ.out
            obtain ⟨⟨_, z1⟩, _, z2⟩ := HH.out.dim
            obtain ⟨a, ha⟩ : ∃ a, a = m + x := ⟨_, rfl⟩
            obtain ⟨n, hn⟩ : ∃ n, n = wd * ht := ⟨_, rfl⟩
            have hal : a < n := by omega
            have EA := Lib.hid (show IntKind.i64.wrap ((m : Int) + (x : Int)) = (a : Int) from by rw [w64sumk m x (by omega), ha])
            have EX := Lib.hid (w64one x (by omega))
            have hlen : (rowsR wd X0 X1 Y0 (fun _ => pntF c) k E).length = wd * ht := HCR.out.len
            have hd : (rowsR wd X0 X1 Y0 (fun _ => pntF c) k E)[a]? = some ((rowsR wd X0 X1 Y0 (fun _ => pntF c) k E)[a]'(by rw [hlen]; omega)) := List.getElem?_eq_getElem _
            have hd8 := HCR.out.b8 _ (List.getElem_mem (by rw [hlen]; omega : a < (rowsR wd X0 X1 Y0 (fun _ => pntF c) k E).length))
            generalize (rowsR wd X0 X1 Y0 (fun _ => pntF c) k E)[a]'(by rw [hlen]; omega) = d at hd hd8
            have hcell : wr.cell? ⟨g, a, none⟩ = some d := by rw [hbg.cell, List.getElem?_toArray, show a = m + X0 + j by omega, mapR_still]; rw [show m + X0 + j = a by omega]; exact hd
            have hfr := hbg.frozen a
            have hgl := hbg.lt
            rw [← hn] at a2
            have HDI := Lib.hid (fun (X : World) (hX : Below wr.heap.size wr X) => And.intro ((hX.cell (p := ⟨q, 0, none⟩) al).trans a0) (And.intro ((hX.cell (p := ⟨q, 1, none⟩) al).trans a1) (And.intro ((hX.cell (p := ⟨q, 2, none⟩) al).trans a2) (And.intro (Nat.lt_of_lt_of_le al hX.size) (And.intro ((hX.cell (p := ⟨g, a, none⟩) hgl).trans hcell) (Nat.lt_of_lt_of_le hgl hX.size))))))
            have HDA := Lib.hid (And.intro hd (And.intro ha (And.intro hx hn)))
            clear hbq hbg hoi K7i hin hsq z1 z2 hXX hd ha hx hn hlen
            go_wp2
            have hI8 : Below wr.heap.size wr wr.drew := (Below.refl _ _).drew
            clear a0 a1 a2 al k0 k1 k2 k3 kl hcell hfr hgl
            refine wp_region_chain_last (fun V => Below wr.heap.size wr V) [(0, false), (1, false), (2, false), (3, false), (4, false), (5, false), (6, false), (7, false), (8, false), (9, false), (10, false), (11, false), (12, false), (13, false), (14, false)] _ _ (by rfl) (by rfl) (by kernel_rfl) (by kernel_rfl) hI8 ?_
            repeat (first
              | (refine ChainL.skip (o := ?_) ?_ ?_ ?_; rotate_left; (focus (first | (simp only [List.getElem?_toArray, List.getElem?_cons_succ, List.getElem?_cons_zero]; with_reducible rfl) | (simp only [List.getElem?_toArray, List.getElem?_cons_zero]; with_reducible rfl))); (focus rfl); simp only [Act.put, List.setIfInBounds_toArray, List.set_cons_zero, List.set_cons_succ])
              | (refine ChainL.val (o := ?_) (v := ?_) ?_ ?_ ?_ ?_ ?_; rotate_left 2; (focus (first | (simp only [List.getElem?_toArray, List.getElem?_cons_succ, List.getElem?_cons_zero]; with_reducible rfl) | (simp only [List.getElem?_toArray, List.getElem?_cons_zero]; with_reducible rfl))); (focus (intro _ _ h; cases h)); (focus rfl); (focus (intro w' hJ; obtain ⟨c0, c1, c2, cl, c5, c6⟩ := HDI.out _ hJ; have e3 := EM.out; have e4 := EA.out; go_simp <;> with_reducible rfl)); simp only [Act.put, List.setIfInBounds_toArray, List.set_cons_zero, List.set_cons_succ]))
            refine ChainL.nil ?_
            have hbgd := HBG.out.below hI8
            have hfr := hbgd.frozen a
            obtain ⟨c0, c1, c2, cl, c5, c6⟩ := HDI.out _ hI8
            have HBGD := Lib.hid hbgd
            have HOID := Lib.hid (HOI.out.drew)
            have ex := EX.out
            clear hbgd
            go_wp2
            clear ex c0 c1 c2 cl c5 c6 hfr hd0 hyl
            go_roundw
            case rel =>
              obtain ⟨hd, ha, hx, hn⟩ := HDA.out
              have hidx : m + X0 + j = a := by omega
              refine ⟨j + 1, by omega, congrArg (Value.int .i64) (EX.out.trans (by omega)), (HBQ.out.below hI8).other (by simpa using hqg) _, ?_, HOID.out.set (.inl (by simp)) _⟩
              have := blk_set_list HBGD.out a (.int .u8 c)
              rw [hidx] at this
              rw [← Nat.add_assoc, mapR_step (d := d) (Nat.le_add_right _ _) _ _ (by rw [hidx]; exact hd), hidx]
              exact this
            case measure => have := HDA.out.2.2.1; rw [EX.out]; simp only [intOf]; omega
          · obtain rfl : j = X1 - X0 := by omega
            have hd1 : decide (((X0 + (X1 - X0) : Nat) : Int) < (X1 : Int)) = false := by simp; omega
            clear hbq hbg hoi K7i a0 a1 a2 al
            have ey := EY.out
            go_wp2
            clear ey
            go_roundw
            case rel =>
              obtain ⟨hm, hYe⟩ := HM.out
              refine ⟨k + 1, by omega, congrArg (Value.int .i64) (EY.out.trans (by omega)), ?_, HOI.out⟩
              have hrow := HBG.out
              rw [show m + X0 + (X1 - X0) = m + X1 by omega] at hrow
              have hrec : rowsR wd X0 X1 Y0 (fun _ => pntF c) (k + 1) E = mapR (m + X0) (m + X1) ((fun _ => pntF c) Y) (rowsR wd X0 X1 Y0 (fun _ => pntF c) k E) := by rw [rowsR, ← hYe, ← hm]
              exact ⟨HBQ.out, by rw [hrec]; exact hrow, by rw [rowsR_len]; exact HH.out.len, rowsR_bytes HH.out.b8 HKB.out (k + 1) (by omega), HH.out.dim⟩
            case measure => have := HM.out.2; rw [EY.out]; simp only [intOf]; omega
      · obtain rfl : k = Y1 - Y0 := by omega
        have hd0 : decide (((Y0 + (Y1 - Y0) : Nat) : Int) < (Y1 : Int)) = false := by simp; omega
        have K6r := (HK6.out.below HBW.out).only HOR.out (by simp; exact fun e => HNQ.out.2 e.symm)
        have HK6r := Lib.hid K6r
        go_wp2_with (refine wpList_store_row rfl 32 (.tmp 6) (.tmp 45) (by with_reducible rfl) (w.heap.size + 1) #[.int .i64 (X0 : Nat), .int .i64 (Y0 : Nat), .int .i64 (X1 : Nat), .int .i64 (Y1 : Nat)] (by rfl) (by rfl) 32 #[.int .i64 0, .int .i64 0, .int .i64 0, .int .i64 0] (by exact HK6r.out) bxInfo rfl (by simp [Value.oneCell']) ?_)
        have o9 := only_row (g := (w.heap.size + 1)) (Only.refl wr [(w.heap.size + 1)]) (.inl (by simp)) #[.int .i64 (X0 : Nat), .int .i64 (Y0 : Nat), .int .i64 (X1 : Nat), .int .i64 (Y1 : Nat)]
        have hq6 := HNQ.out
        refine bodyPost_ret (results_cell_row Try.results32 _ _ ((w.heap.size + 1)) 32 #[.int .i64 (X0 : Nat), .int .i64 (Y0 : Nat), .int .i64 (X1 : Nat), .int .i64 (Y1 : Nat)] (0, 0) _ (by rfl) (show Blk _ _ _ _ from blk_row HK6r.out _) Try.underlying32 rfl bxInfo) rfl ⟨rfl, HCR.out.only o9 (by simp; exact hq6.1) (by simp; exact hq6.2), ?_⟩
        have h1 : Only w wr [g] := ((Only.of_below HW2.out [g]).trans (Only.of_below HBW.out [g]) (fun b hb => .inl hb)).trans HOR.out (fun b hb => .inl hb)
        exact only_row (g := (w.heap.size + 1)) h1 (.inr (by omega)) #[.int .i64 (X0 : Nat), .int .i64 (Y0 : Nat), .int .i64 (X1 : Nat), .int .i64 (Y1 : Nat)]
end Go.Proofs.Ytlbbigehjdnjmaa
