/- Part 6 of the proof: StK3, StL, StJ1, StL2. -/
import Derived.Test.YtkhafhdmcalhbaaM4StackDoes

namespace Go.Proofs.Ytkhafhdmcalhbaa
open Go Go.RowKit
set_option linter.unusedVariables false
set_option linter.unusedSimpArgs false
set_option maxRecDepth 100000 in
set_option maxHeartbeats 4000000 in
theorem do_okT (op : Int) (k : Nat) (v1 v2 v3 : Value) (hone : (opL ⟨op, k, true, v1, v2, v3⟩).toArray.all (·.oneCell') = true) (q : Nat) (nv : Value) (L St ds : List Int) (w : World) (hs : Sk w q nv L St ds) (hf : ∀ W, Calls Try.prog 26 #[.int .i64 op] W fun e w' => e = .returned (.tuple #[.agg (opL ⟨op, k, true, v1, v2, v3⟩).toArray, .bool true]) ∧ Below W.heap.size W w') (r : Nat) (hr : L.length = r + k) (hg : L.length ≠ 48) (code : Int) (out L2 St2 ds2 : List Int) (hcode : code = 0) (hl48 : r + out.length ≤ 48) (hmo : ∀ x ∈ out, mayB x = true) (hL2 : L2.length = L.length)
    (hR : ∀ W At ct, Sk W q nv L St ds → Lists W W.heap.size At (intCells (L.drop r)) → Calls Try.prog 27 #[.agg (opL ⟨op, k, true, v1, v2, v3⟩).toArray, .pointer (some ⟨q, 0, none⟩), .slice At k ct] W (Res q nv W code out L2 St2 ds2)) :
    Calls Try.prog 14 #[.pointer (some ⟨q, 0, none⟩), .int .i64 op] w (Did q nv w 0 (L2.take r ++ out) St2 ds2) := by
  obtain ⟨A, c, hb, hls, hcc⟩ := hs.blk
  have c0 := hb.cell 0
  rw [sk_c0] at c0
  have hown := hs.own
  obtain ⟨A0, n0, rfl, hl0, hn0⟩ := own_lists hown
  have hq := hs.lt
  have HS := Lib.hid hs
  obtain ⟨n, hn⟩ : ∃ n, n = L.length := ⟨_, rfl⟩
  have hn48 : n ≤ 48 := by rw [hn]; exact hs.len
  rw [← hn] at c0 hn0
  have C0 : ∀ V, Below w.heap.size w V → V.cell? ⟨q, 0, none⟩ = some (.slice A0 n n0) := fun V hb' => (hb'.cell (p := ⟨q, 0, none⟩) hq).trans c0
  rw [← hn] at hr hg
  have e1 : IntKind.i64.wrap ((n : Int) - (k : Int)) = (r : Int) := by simp [IntKind.wrap, IntKind.bits, IntKind.signed]; omega
  have d1 : decide ((r : Int) < 0) = false := by simp
  have SO := fun W => slice_okI A0 n n0 r (by omega) hn0 W
  rw [show n - r = k by omega] at SO
  have hld : ∀ V, Below w.heap.size w V → Lists V V.heap.size (if n0 = r then A0 else A0.map (·.add r)) (intCells (L.drop r)) := fun V hV => (lists_dropI (hl0.below hV) r n0 (by omega) (by omega)).more hV.size
  generalize hAt : (if n0 = r then A0 else A0.map (·.add r)) = At at *
  clear hAt
  have HLD := Lib.hid hld
  have HR2 := Lib.hid hR
  have HNN := Lib.hid hn
  have HRR := Lib.hid hr
  have HN0 := Lib.hid hn0
  have g1 : decide ((n : Int) = 48) = false := by simp; omega
  have g2 : ((n : Int) == 48) = false := by simp; omega
  have hrr0 : k ≤ n := by omega
  have hrk : r ≤ n := by omega
  clear hs hb hls hl0 hn0 hn hown hcc hld hr hR hn48 hg
  subst hcode
  obtain ⟨i0, hi, hz0, hz1, hz2⟩ := info_partsS infoS
  have SU := fun W => slice_up A0 n n0 r (by have := HN0.out; omega) W
  have HL48 := Lib.hid hl48
  have HMO := Lib.hid hmo
  have HLL := Lib.hid hL2
  obtain ⟨mo, hmoo⟩ : ∃ mo, mo = out.length := ⟨_, rfl⟩
  have HOO := Lib.hid hmoo
  have hm48 : r + out.length ≤ 48 := by omega
  clear hl48 hmo hL2
  go_enter Try.func14, Try.ntmps14
  go_wp2_with (first | (go_at_call 26; ((with_reducible refine (hf _).mono ?_); rintro e w1 ⟨rfl, b1⟩)) | (refine wpList_store_fresh rfl 53 (.tmp 5) (.tmp 15) (by rfl) (opL ⟨op, k, true, v1, v2, v3⟩).toArray _ _ (by rfl) (by rfl) (by kernel_rfl) (by kernel_rfl) (hone) ?_; intro W2 k2 b2 z2; have b12 : Below w.heap.size w W2 := b1.trans (b2.mono b1.size)))
  have K2 : ∀ V, Below W2.heap.size W2 V → V.cell? ⟨w1.heap.size, 1, none⟩ = some (.int .i64 (k : Nat)) := fun V hV => ((k2.below hV).cell 1).trans rfl
  have K3 : ∀ V, Below W2.heap.size W2 V → V.cell? ⟨w1.heap.size, 2, none⟩ = some (.bool true) := fun V hV => ((k2.below hV).cell 2).trans rfl
  have D0 : ∀ V, Below W2.heap.size W2 V → V.cell? ⟨q, 0, none⟩ = some (.slice A0 n n0) := fun V hV => C0 V (b12.trans (hV.mono b12.size))
  have hI : Below W2.heap.size W2 W2.drew := (Below.refl _ _).drew
  refine wp_region_chain (fun V => Below W2.heap.size W2 V) [(0, false), (1, false), (2, false), (3, false), (4, false), (5, false), (6, false), (7, false), (8, false)] (by kernel_rfl) (by kernel_rfl) hI ?_
  repeat (first
    | (refine ChainL.skip (o := ?_) ?_ ?_ ?_; rotate_left; (focus (first | (simp only [List.getElem?_toArray, List.getElem?_cons_succ, List.getElem?_cons_zero]; with_reducible rfl) | (simp only [List.getElem?_toArray, List.getElem?_cons_zero]; with_reducible rfl))); (focus rfl); simp only [Act.put, List.setIfInBounds_toArray, List.set_cons_zero, List.set_cons_succ])
    | (refine ChainL.val (o := ?_) (v := ?_) ?_ ?_ ?_ ?_ ?_; rotate_left 2; (focus (first | (simp only [List.getElem?_toArray, List.getElem?_cons_succ, List.getElem?_cons_zero]; with_reducible rfl) | (simp only [List.getElem?_toArray, List.getElem?_cons_zero]; with_reducible rfl))); (focus (intro _ _ h; cases h)); (focus rfl); (focus (intro w' hJ; have y0 := D0 _ hJ; have y1 := K2 _ hJ; go_simp <;> with_reducible rfl)); simp only [Act.put, List.setIfInBounds_toArray, List.set_cons_zero, List.set_cons_succ]))
  refine ChainL.nil ?_
  have y0 := D0 _ hI
  have y2 := K3 _ hI
  go_wp2
  obtain ⟨W3, hW3⟩ : ∃ W3, W3 = W2.drew.drew := ⟨_, rfl⟩
  have hZ : Blk W3 w1.heap.size 53 (opL ⟨op, k, true, v1, v2, v3⟩).toArray ∧ W3.cell? ⟨q, 0, none⟩ = some (.slice A0 n n0) := by
    rw [hW3]
    exact ⟨(k2.below hI).below (Below.refl _ _).drew, (((Below.refl _ _).drew).cell (p := ⟨q, 0, none⟩) (Nat.lt_of_lt_of_le hq (b12.trans (hI.mono b12.size)).size)).trans y0⟩
  have b9 : Below w.heap.size w W3 := by rw [hW3]; exact (b12.trans (hI.mono b12.size)).drew
  have hfar : w1.heap.size ∉ q :: blk (Value.slice A0 L.length n0) := by
    intro hm
    have h1 := b1.size
    rcases List.mem_cons.1 hm with h2 | h2
    · omega
    · have h3 := blk_lt HS.out.own _ h2
      omega
  refine wp_region_chain (fun V => Blk V w1.heap.size 53 (opL ⟨op, k, true, v1, v2, v3⟩).toArray ∧ V.cell? ⟨q, 0, none⟩ = some (.slice A0 n n0)) [(0, false), (1, false), (2, false), (3, false), (4, false), (5, false), (6, false), (7, false), (8, true), (9, false), (10, false), (11, false), (12, false), (13, false)] (by kernel_rfl) (by kernel_rfl) (hW3 ▸ hZ) ?_
  rw [← hW3]
  repeat (first
    | (refine ChainL.skip (o := ?_) ?_ ?_ ?_; rotate_left; (focus (first | (simp only [List.getElem?_toArray, List.getElem?_cons_succ, List.getElem?_cons_zero]; with_reducible rfl) | (simp only [List.getElem?_toArray, List.getElem?_cons_zero]; with_reducible rfl))); (focus rfl); simp only [Act.put, List.setIfInBounds_toArray, List.set_cons_zero, List.set_cons_succ])
    | (refine ChainL.val (o := ?_) (v := ?_) ?_ ?_ ?_ ?_ ?_; rotate_left 2; (focus (first | (simp only [List.getElem?_toArray, List.getElem?_cons_succ, List.getElem?_cons_zero]; with_reducible rfl) | (simp only [List.getElem?_toArray, List.getElem?_cons_zero]; with_reducible rfl))); (focus (intro _ _ h; cases h)); (focus rfl); (focus (intro w' hJ; have y0 := hJ.2; have hLD := load_blk (P := Try.prog) hJ.1 Try.underlying53 rfl opSize; first | (have H := fun ρ o x => @exec_load _ ρ o _ _ x _ _ hLD; refine H _ _ ?_ ?_ ?_; rotate_left; (focus rfl); (focus rfl)) | (go_simp <;> with_reducible rfl))); simp only [Act.put, List.setIfInBounds_toArray, List.set_cons_zero, List.set_cons_succ]))
  refine ChainL.call (o := ?_) (f := ?_) (args := ?_) ?_ ?_ ?_ ?_
  rotate_left 3
  (focus (first | (simp only [List.getElem?_toArray, List.getElem?_cons_succ, List.getElem?_cons_zero]; with_reducible rfl) | (simp only [List.getElem?_toArray, List.getElem?_cons_zero]; with_reducible rfl)))
  (focus rfl)
  (focus (go_simp; (constructor <;> with_reducible rfl)))
  refine (HR2.out W3 At (n0 - r) (HS.out.below b9) (HLD.out _ b9)).mono ?_
  rintro e w4 h4
  obtain ⟨A4, c4, rfl, hl4, hs4, hm4⟩ := h4
  have i1 : Blk w4 w1.heap.size 53 (opL ⟨op, k, true, v1, v2, v3⟩).toArray := hZ.1.only hm4.1 hfar
  have i2 : w4.cell? ⟨q, 0, none⟩ = some (.slice A0 n n0) := by
    obtain ⟨A8, c8, hb8, _⟩ := hs4.blk
    have h8 := hb8.cell 0
    rw [sk_c0] at h8
    rw [HNN.out]
    exact h8
  refine ⟨_, rfl, ⟨i1, i2⟩, ?_⟩
  simp only [Act.put, List.setIfInBounds_toArray, List.set_cons_zero, List.set_cons_succ]
  repeat (first
    | (refine ChainL.skip (o := ?_) ?_ ?_ ?_; rotate_left; (focus (first | (simp only [List.getElem?_toArray, List.getElem?_cons_succ, List.getElem?_cons_zero]; with_reducible rfl) | (simp only [List.getElem?_toArray, List.getElem?_cons_zero]; with_reducible rfl))); (focus rfl); simp only [Act.put, List.setIfInBounds_toArray, List.set_cons_zero, List.set_cons_succ])
    | (refine ChainL.val (o := ?_) (v := ?_) ?_ ?_ ?_ ?_ ?_; rotate_left 2; (focus (first | (simp only [List.getElem?_toArray, List.getElem?_cons_succ, List.getElem?_cons_zero]; with_reducible rfl) | (simp only [List.getElem?_toArray, List.getElem?_cons_zero]; with_reducible rfl))); (focus (intro _ _ h; cases h)); (focus rfl); (focus (intro w' hJ; skip; go_simp <;> with_reducible rfl)); simp only [Act.put, List.setIfInBounds_toArray, List.set_cons_zero, List.set_cons_succ]))
  refine ChainL.nil ?_
  have own4 := own_cutS (n := n) (L := L2) (k := r) (by have h := hs4.own; rw [HLL.out, ← HNN.out] at h; exact h) hrk
  obtain ⟨A8, c8, hb8, hls8, hc8⟩ := hs4.blk
  have f8 := hb8.frozen 0
  have hq4 := hs4.lt
  have hne : q ∉ blk (Value.slice A0 r n0) := own_ne own4 hb8 (by decide)
  have HL4 := Lib.hid hl4
  clear hl4
  go_wp2_with (at_builtin; refine wpList_append_src _ rfl (.tmp 62) (.tmp 63) 22 rfl q 3 i0 (.int .i64 0) 1 8 Try.underlying22 hi hz0 hz1 hz2 rfl (by decide) (.slice A0 r n0) r (intCells (L2.take r)) rfl own4 w4.heap.size A4 out.length c4 (intCells out) (by rfl) HL4.out (by rw [intCells_len, Nat.mul_one]) (intCells_oneS out) (by simp only [maxLen]; omega) (by omega) (Nat.le_of_lt hq4) ?_; intro v2 w5 own5 hg5 hat5; obtain ⟨A2, n2, rfl, _⟩ := own_lists own5; have g5 : Only w4 w5 (blk (.slice A0 r n0)) := (Only.refl _ _).grown hg5 (fun b hb => .inl (by simp [blk, hb])); have hb5 := hb8.only g5 hne; have c5 := hb5.cell 0; rw [sk_c0] at c5; have f5 := hb5.frozen 0)
  go_ret
  have P := hs4.put (L2 := L2.take r ++ out) (by rw [blk_len A0 L.length n0 r n0]; exact g5) (by rw [List.length_append, List.length_take, HLL.out, ← HNN.out, Nat.min_eq_left hrk, intCells_app]; exact own5) ?_ ?_ ?_
  · exact ⟨rfl, _, P.1, ((Mod.below b9).trans hm4).trans P.2⟩
  · intro b hb
    rcases hat5 with e | e
    · left
      rw [blk_len A0 L.length n0 r n0]
      unfold blk at hb ⊢
      rw [e] at hb
      exact hb
    · right
      unfold blk at hb
      rw [e] at hb
      simp at hb
      omega
  · rw [List.length_append, List.length_take, HLL.out, ← HNN.out]; have := HL48.out; omega
  · intro x hx
    rcases List.mem_append.1 hx with h | h
    · exact hs4.may x (List.mem_of_mem_take h)
    · exact HMO.out x h
end Go.Proofs.Ytkhafhdmcalhbaa

namespace Go.Proofs.Ytkhafhdmcalhbaa
open Go Go.RowKit
set_option linter.unusedVariables false
set_option linter.unusedSimpArgs false

theorem take_low (low r : List Int) : (low ++ r).take low.length = low := List.take_left' rfl
theorem drop_low (low r : List Int) : (low ++ r).drop low.length = r := List.drop_left' rfl
theorem do_one_ok (op : Int) (g : FuncId) (eg : ∀ args w, (callFunc g args).run Try.prog w = .ok (.enter g args) w) (q : Nat) (nv : Value) (low St ds : List Int) (a : Int) (w : World) (hs : Sk w q nv (low ++ [a]) St ds) (hf : ∀ W, Calls Try.prog 26 #[.int .i64 op] W fun e w' => e = .returned (.tuple #[.agg (opL ⟨op, 1, false, fv g, .nilFunc, .nilFunc⟩).toArray, .bool true]) ∧ Below W.heap.size W w') (x : Int) (hC : ∀ w1, Calls Try.prog g #[.int .i64 a] w1 fun e w' => e = .returned (.tuple #[.int .i64 x, .int .i64 0]) ∧ Below w1.heap.size w1 w') (hx : mayB x = true) :
    Calls Try.prog 14 #[.pointer (some ⟨q, 0, none⟩), .int .i64 op] w (Did q nv w 0 (low ++ [x]) St ds) := by
  have h := do_okF op 1 (fv g) (.nilFunc) .nilFunc (by kernel_rfl) q nv (low ++ [a]) St ds w hs hf low.length (by simp) trivial 0 [x] (low ++ [a]) St ds rfl (by have := hs.len; simp at this ⊢; omega) (by intro y hy; simp at hy; subst hy; exact hx) rfl (fun W At ct hsk hl => result_1 g op 1 false q nv At ct a x 0 (low ++ [a]) St ds W eg hsk (by rw [drop_low] at hl; exact hl) hC)
  rwa [take_low] at h
theorem do_one_no (op : Int) (g : FuncId) (eg : ∀ args w, (callFunc g args).run Try.prog w = .ok (.enter g args) w) (q : Nat) (nv : Value) (low St ds : List Int) (a : Int) (w : World) (hs : Sk w q nv (low ++ [a]) St ds) (hf : ∀ W, Calls Try.prog 26 #[.int .i64 op] W fun e w' => e = .returned (.tuple #[.agg (opL ⟨op, 1, false, fv g, .nilFunc, .nilFunc⟩).toArray, .bool true]) ∧ Below W.heap.size W w') (x code : Int) (hC : ∀ w1, Calls Try.prog g #[.int .i64 a] w1 fun e w' => e = .returned (.tuple #[.int .i64 x, .int .i64 code]) ∧ Below w1.heap.size w1 w') (hx : code ≠ 0) :
    Calls Try.prog 14 #[.pointer (some ⟨q, 0, none⟩), .int .i64 op] w (Did q nv w code (low ++ [a]) St ds) :=
  do_failF op 1 (fv g) (.nilFunc) .nilFunc (by kernel_rfl) q nv (low ++ [a]) St ds w hs hf low.length (by simp) trivial code [x] (low ++ [a]) St ds hx rfl (fun W At ct hsk hl => result_1 g op 1 false q nv At ct a x code (low ++ [a]) St ds W eg hsk (by rw [drop_low] at hl; exact hl) hC)
theorem do_two_ok (op : Int) (g : FuncId) (eg : ∀ args w, (callFunc g args).run Try.prog w = .ok (.enter g args) w) (q : Nat) (nv : Value) (low St ds : List Int) (a b : Int) (w : World) (hs : Sk w q nv (low ++ [a, b]) St ds) (hf : ∀ W, Calls Try.prog 26 #[.int .i64 op] W fun e w' => e = .returned (.tuple #[.agg (opL ⟨op, 2, false, .nilFunc, fv g, .nilFunc⟩).toArray, .bool true]) ∧ Below W.heap.size W w') (x : Int) (hC : ∀ w1, Calls Try.prog g #[.int .i64 a, .int .i64 b] w1 fun e w' => e = .returned (.tuple #[.int .i64 x, .int .i64 0]) ∧ Below w1.heap.size w1 w') (hx : mayB x = true) :
    Calls Try.prog 14 #[.pointer (some ⟨q, 0, none⟩), .int .i64 op] w (Did q nv w 0 (low ++ [x]) St ds) := by
  have h := do_okF op 2 (.nilFunc) (fv g) .nilFunc (by kernel_rfl) q nv (low ++ [a, b]) St ds w hs hf low.length (by simp) trivial 0 [x] (low ++ [a, b]) St ds rfl (by have := hs.len; simp at this ⊢; omega) (by intro y hy; simp at hy; subst hy; exact hx) rfl (fun W At ct hsk hl => result_2 g op 2 false q nv At ct a b x 0 (low ++ [a, b]) St ds W eg hsk (by rw [drop_low] at hl; exact hl) hC)
  rwa [take_low] at h
theorem do_two_no (op : Int) (g : FuncId) (eg : ∀ args w, (callFunc g args).run Try.prog w = .ok (.enter g args) w) (q : Nat) (nv : Value) (low St ds : List Int) (a b : Int) (w : World) (hs : Sk w q nv (low ++ [a, b]) St ds) (hf : ∀ W, Calls Try.prog 26 #[.int .i64 op] W fun e w' => e = .returned (.tuple #[.agg (opL ⟨op, 2, false, .nilFunc, fv g, .nilFunc⟩).toArray, .bool true]) ∧ Below W.heap.size W w') (x code : Int) (hC : ∀ w1, Calls Try.prog g #[.int .i64 a, .int .i64 b] w1 fun e w' => e = .returned (.tuple #[.int .i64 x, .int .i64 code]) ∧ Below w1.heap.size w1 w') (hx : code ≠ 0) :
    Calls Try.prog 14 #[.pointer (some ⟨q, 0, none⟩), .int .i64 op] w (Did q nv w code (low ++ [a, b]) St ds) :=
  do_failF op 2 (.nilFunc) (fv g) .nilFunc (by kernel_rfl) q nv (low ++ [a, b]) St ds w hs hf low.length (by simp) trivial code [x] (low ++ [a, b]) St ds hx rfl (fun W At ct hsk hl => result_2 g op 2 false q nv At ct a b x code (low ++ [a, b]) St ds W eg hsk (by rw [drop_low] at hl; exact hl) hC)
theorem do_fn_okF (op : Int) (g : FuncId) (eg : ∀ args w, (callFunc g args).run Try.prog w = .ok (.enter g args) w) (k : Nat) (q : Nat) (nv : Value) (low tk L2 St ds St2 ds2 : List Int) (hk : tk.length = k) (w : World) (hs : Sk w q nv (low ++ tk) St ds) (hf : ∀ W, Calls Try.prog 26 #[.int .i64 op] W fun e w' => e = .returned (.tuple #[.agg (opL ⟨op, k, false, .nilFunc, .nilFunc, fv g⟩).toArray, .bool true]) ∧ Below W.heap.size W w') (out : List Int) (hL2 : L2.length = (low ++ tk).length) (hl : low.length + out.length ≤ 48) (hx : ∀ x ∈ out, mayB x = true) (hC : ∀ W At ct, Sk W q nv (low ++ tk) St ds → Lists W W.heap.size At (intCells tk) → Calls Try.prog g #[.pointer (some ⟨q, 0, none⟩), .slice At k ct] W (Res q nv W 0 out L2 St2 ds2)) :
    Calls Try.prog 14 #[.pointer (some ⟨q, 0, none⟩), .int .i64 op] w (Did q nv w 0 (L2.take low.length ++ out) St2 ds2) :=
  do_okF op k .nilFunc .nilFunc (fv g) (by kernel_rfl) q nv (low ++ tk) St ds w hs hf low.length (by simp [hk]) trivial 0 out L2 St2 ds2 rfl hl hx hL2 (fun W At ct hsk hl => result_fn g op k false q nv At k ct 0 out L2 St2 ds2 W eg (fun w1 b1 => hC w1 At ct (hsk.below b1) (by rw [drop_low] at hl; exact (hl.below b1).more b1.size)))
theorem do_fn_noF (op : Int) (g : FuncId) (eg : ∀ args w, (callFunc g args).run Try.prog w = .ok (.enter g args) w) (k : Nat) (q : Nat) (nv : Value) (low tk L2 St ds St2 ds2 : List Int) (hk : tk.length = k) (w : World) (hs : Sk w q nv (low ++ tk) St ds) (hf : ∀ W, Calls Try.prog 26 #[.int .i64 op] W fun e w' => e = .returned (.tuple #[.agg (opL ⟨op, k, false, .nilFunc, .nilFunc, fv g⟩).toArray, .bool true]) ∧ Below W.heap.size W w') (out : List Int) (hL2 : L2.length = (low ++ tk).length) (code : Int) (hx : code ≠ 0) (hC : ∀ W At ct, Sk W q nv (low ++ tk) St ds → Lists W W.heap.size At (intCells tk) → Calls Try.prog g #[.pointer (some ⟨q, 0, none⟩), .slice At k ct] W (Res q nv W code out L2 St2 ds2)) :
    Calls Try.prog 14 #[.pointer (some ⟨q, 0, none⟩), .int .i64 op] w (Did q nv w code L2 St2 ds2) :=
  do_failF op k .nilFunc .nilFunc (fv g) (by kernel_rfl) q nv (low ++ tk) St ds w hs hf low.length (by simp [hk]) trivial code out L2 St2 ds2 hx hL2 (fun W At ct hsk hl => result_fn g op k false q nv At k ct code out L2 St2 ds2 W eg (fun w1 b1 => hC w1 At ct (hsk.below b1) (by rw [drop_low] at hl; exact (hl.below b1).more b1.size)))
theorem do_fn_okT (op : Int) (g : FuncId) (eg : ∀ args w, (callFunc g args).run Try.prog w = .ok (.enter g args) w) (k : Nat) (q : Nat) (nv : Value) (low tk L2 St ds St2 ds2 : List Int) (hk : tk.length = k) (w : World) (hs : Sk w q nv (low ++ tk) St ds) (hf : ∀ W, Calls Try.prog 26 #[.int .i64 op] W fun e w' => e = .returned (.tuple #[.agg (opL ⟨op, k, true, .nilFunc, .nilFunc, fv g⟩).toArray, .bool true]) ∧ Below W.heap.size W w') (out : List Int) (hL2 : L2.length = (low ++ tk).length) (hg : (low ++ tk).length ≠ 48) (hl : low.length + out.length ≤ 48) (hx : ∀ x ∈ out, mayB x = true) (hC : ∀ W At ct, Sk W q nv (low ++ tk) St ds → Lists W W.heap.size At (intCells tk) → Calls Try.prog g #[.pointer (some ⟨q, 0, none⟩), .slice At k ct] W (Res q nv W 0 out L2 St2 ds2)) :
    Calls Try.prog 14 #[.pointer (some ⟨q, 0, none⟩), .int .i64 op] w (Did q nv w 0 (L2.take low.length ++ out) St2 ds2) :=
  do_okT op k .nilFunc .nilFunc (fv g) (by kernel_rfl) q nv (low ++ tk) St ds w hs hf low.length (by simp [hk]) hg 0 out L2 St2 ds2 rfl hl hx hL2 (fun W At ct hsk hl => result_fn g op k true q nv At k ct 0 out L2 St2 ds2 W eg (fun w1 b1 => hC w1 At ct (hsk.below b1) (by rw [drop_low] at hl; exact (hl.below b1).more b1.size)))
theorem find_abs (W : World) : Calls Try.prog 26 #[.int .i64 9] W fun e w' => e = .returned (.tuple #[.agg (opL ⟨9, 1, false, fv 41, .nilFunc, .nilFunc⟩).toArray, .bool true]) ∧ Below W.heap.size W w' := find_yes 9 0 ⟨9, 1, false, fv 41, .nilFunc, .nilFunc⟩ (by rfl) (by kernel_rfl) W
theorem find_neg (W : World) : Calls Try.prog 26 #[.int .i64 14] W fun e w' => e = .returned (.tuple #[.agg (opL ⟨14, 1, false, fv 42, .nilFunc, .nilFunc⟩).toArray, .bool true]) ∧ Below W.heap.size W w' := find_yes 14 1 ⟨14, 1, false, fv 42, .nilFunc, .nilFunc⟩ (by rfl) (by kernel_rfl) W
theorem find_sqrt (W : World) : Calls Try.prog 26 #[.int .i64 26] W fun e w' => e = .returned (.tuple #[.agg (opL ⟨26, 1, false, fv 43, .nilFunc, .nilFunc⟩).toArray, .bool true]) ∧ Below W.heap.size W w' := find_yes 26 2 ⟨26, 1, false, fv 43, .nilFunc, .nilFunc⟩ (by rfl) (by kernel_rfl) W
theorem find_not (W : World) : Calls Try.prog 26 #[.int .i64 5] W fun e w' => e = .returned (.tuple #[.agg (opL ⟨5, 1, false, fv 44, .nilFunc, .nilFunc⟩).toArray, .bool true]) ∧ Below W.heap.size W w' := find_yes 5 3 ⟨5, 1, false, fv 44, .nilFunc, .nilFunc⟩ (by rfl) (by kernel_rfl) W
theorem find_add (W : World) : Calls Try.prog 26 #[.int .i64 10] W fun e w' => e = .returned (.tuple #[.agg (opL ⟨10, 2, false, .nilFunc, fv 45, .nilFunc⟩).toArray, .bool true]) ∧ Below W.heap.size W w' := find_yes 10 4 ⟨10, 2, false, .nilFunc, fv 45, .nilFunc⟩ (by rfl) (by kernel_rfl) W
theorem find_sub (W : World) : Calls Try.prog 26 #[.int .i64 11] W fun e w' => e = .returned (.tuple #[.agg (opL ⟨11, 2, false, .nilFunc, fv 46, .nilFunc⟩).toArray, .bool true]) ∧ Below W.heap.size W w' := find_yes 11 5 ⟨11, 2, false, .nilFunc, fv 46, .nilFunc⟩ (by rfl) (by kernel_rfl) W
theorem find_mul (W : World) : Calls Try.prog 26 #[.int .i64 24] W fun e w' => e = .returned (.tuple #[.agg (opL ⟨24, 2, false, .nilFunc, fv 47, .nilFunc⟩).toArray, .bool true]) ∧ Below W.heap.size W w' := find_yes 24 6 ⟨24, 2, false, .nilFunc, fv 47, .nilFunc⟩ (by rfl) (by kernel_rfl) W
theorem find_div (W : World) : Calls Try.prog 26 #[.int .i64 12] W fun e w' => e = .returned (.tuple #[.agg (opL ⟨12, 2, false, .nilFunc, fv 48, .nilFunc⟩).toArray, .bool true]) ∧ Below W.heap.size W w' := find_yes 12 7 ⟨12, 2, false, .nilFunc, fv 48, .nilFunc⟩ (by rfl) (by kernel_rfl) W
theorem find_and (W : World) : Calls Try.prog 26 #[.int .i64 3] W fun e w' => e = .returned (.tuple #[.agg (opL ⟨3, 2, false, .nilFunc, fv 49, .nilFunc⟩).toArray, .bool true]) ∧ Below W.heap.size W w' := find_yes 3 8 ⟨3, 2, false, .nilFunc, fv 49, .nilFunc⟩ (by rfl) (by kernel_rfl) W
theorem find_or (W : World) : Calls Try.prog 26 #[.int .i64 4] W fun e w' => e = .returned (.tuple #[.agg (opL ⟨4, 2, false, .nilFunc, fv 50, .nilFunc⟩).toArray, .bool true]) ∧ Below W.heap.size W w' := find_yes 4 9 ⟨4, 2, false, .nilFunc, fv 50, .nilFunc⟩ (by rfl) (by kernel_rfl) W
theorem find_eq (W : World) : Calls Try.prog 26 #[.int .i64 15] W fun e w' => e = .returned (.tuple #[.agg (opL ⟨15, 2, false, .nilFunc, fv 51, .nilFunc⟩).toArray, .bool true]) ∧ Below W.heap.size W w' := find_yes 15 10 ⟨15, 2, false, .nilFunc, fv 51, .nilFunc⟩ (by rfl) (by kernel_rfl) W
theorem find_drop (W : World) : Calls Try.prog 26 #[.int .i64 18] W fun e w' => e = .returned (.tuple #[.agg (opL ⟨18, 1, false, .nilFunc, .nilFunc, fv 52⟩).toArray, .bool true]) ∧ Below W.heap.size W w' := find_yes 18 11 ⟨18, 1, false, .nilFunc, .nilFunc, fv 52⟩ (by rfl) (by kernel_rfl) W
theorem find_dup (W : World) : Calls Try.prog 26 #[.int .i64 27] W fun e w' => e = .returned (.tuple #[.agg (opL ⟨27, 1, true, .nilFunc, .nilFunc, fv 53⟩).toArray, .bool true]) ∧ Below W.heap.size W w' := find_yes 27 12 ⟨27, 1, true, .nilFunc, .nilFunc, fv 53⟩ (by rfl) (by kernel_rfl) W
theorem find_exch (W : World) : Calls Try.prog 26 #[.int .i64 28] W fun e w' => e = .returned (.tuple #[.agg (opL ⟨28, 2, false, .nilFunc, .nilFunc, fv 54⟩).toArray, .bool true]) ∧ Below W.heap.size W w' := find_yes 28 13 ⟨28, 2, false, .nilFunc, .nilFunc, fv 54⟩ (by rfl) (by kernel_rfl) W
theorem find_ifelse (W : World) : Calls Try.prog 26 #[.int .i64 22] W fun e w' => e = .returned (.tuple #[.agg (opL ⟨22, 4, false, .nilFunc, .nilFunc, fv 55⟩).toArray, .bool true]) ∧ Below W.heap.size W w' := find_yes 22 14 ⟨22, 4, false, .nilFunc, .nilFunc, fv 55⟩ (by rfl) (by kernel_rfl) W
theorem find_index (W : World) : Calls Try.prog 26 #[.int .i64 29] W fun e w' => e = .returned (.tuple #[.agg (opL ⟨29, 1, false, .nilFunc, .nilFunc, fv 56⟩).toArray, .bool true]) ∧ Below W.heap.size W w' := find_yes 29 15 ⟨29, 1, false, .nilFunc, .nilFunc, fv 56⟩ (by rfl) (by kernel_rfl) W
theorem find_roll (W : World) : Calls Try.prog 26 #[.int .i64 30] W fun e w' => e = .returned (.tuple #[.agg (opL ⟨30, 2, false, .nilFunc, .nilFunc, fv 57⟩).toArray, .bool true]) ∧ Below W.heap.size W w' := find_yes 30 16 ⟨30, 2, false, .nilFunc, .nilFunc, fv 57⟩ (by rfl) (by kernel_rfl) W
theorem find_put (W : World) : Calls Try.prog 26 #[.int .i64 20] W fun e w' => e = .returned (.tuple #[.agg (opL ⟨20, 2, false, .nilFunc, .nilFunc, fv 58⟩).toArray, .bool true]) ∧ Below W.heap.size W w' := find_yes 20 17 ⟨20, 2, false, .nilFunc, .nilFunc, fv 58⟩ (by rfl) (by kernel_rfl) W
theorem find_get (W : World) : Calls Try.prog 26 #[.int .i64 21] W fun e w' => e = .returned (.tuple #[.agg (opL ⟨21, 1, false, .nilFunc, .nilFunc, fv 59⟩).toArray, .bool true]) ∧ Below W.heap.size W w' := find_yes 21 18 ⟨21, 1, false, .nilFunc, .nilFunc, fv 59⟩ (by rfl) (by kernel_rfl) W
theorem find_random (W : World) : Calls Try.prog 26 #[.int .i64 23] W fun e w' => e = .returned (.tuple #[.agg (opL ⟨23, 0, true, .nilFunc, .nilFunc, fv 60⟩).toArray, .bool true]) ∧ Below W.heap.size W w' := find_yes 23 19 ⟨23, 0, true, .nilFunc, .nilFunc, fv 60⟩ (by rfl) (by kernel_rfl) W
end Go.Proofs.Ytkhafhdmcalhbaa

namespace Go.Proofs.Ytkhafhdmcalhbaa
open Go Go.RowKit
set_option linter.unusedVariables false
set_option linter.unusedSimpArgs false
set_option maxRecDepth 100000 in
set_option maxHeartbeats 2000000 in
theorem index_someN (q : Nat) (nv : Value) (At : Option Addr) (ct : Nat) (a : Int) (St ds : List Int) (low : List Int) (m p : Nat) (w : World) (hs : Sk w q nv (low ++ [a]) St ds) (hL : Lists w w.heap.size At (intCells [a])) (hx : a / 65536 < 0) (hm : m = 0) (hp : p + m + 1 = low.length) :
    Calls Try.prog 56 #[.pointer (some ⟨q, 0, none⟩), .slice At 1 ct] w (Res q nv w 0 [low.getD p 0] (low ++ [a]) St ds) := by
  have HS := Lib.hid hs
  obtain ⟨b0, o0, rfl, hbl, hce⟩ := hL.plain (by simp [intCells])
  have Ca : ∀ V, Below w.heap.size w V → V.cell? ⟨b0, o0, none⟩ = some (.int .i64 a) := fun V hV => (hV.cell (p := ⟨b0, o0, none⟩) (by simp; omega)).trans (hce 0 _ rfl)
  have ya := Ca w (Below.refl _ _)
  obtain ⟨A0, n0, rfl, hl0, hn0⟩ := own_lists hs.own
  obtain ⟨l, hl⟩ : ∃ l, l = low.length := ⟨_, rfl⟩
  have hlen : (low ++ [a]).length = l + 1 := by rw [List.length_append, ← hl]; rfl
  have hl48 : l + 1 ≤ 48 := by rw [← hlen]; exact hs.len
  have ha : mayB a = true := hs.may a (by simp)
  have CB := below_any q A0 (l + 1) 1 n0 (low ++ [a]) St ds (some ⟨b0, o0, none⟩) ct w (by rw [hlen] at hs; exact hs) hlen.symm (by omega)
  rw [Nat.add_sub_cancel] at CB
  have CW := fun W => whole_may a W ha
  obtain ⟨bb, oo, rfl, hbb, hcc⟩ := hl0.plain (by simp [intCells])
  rw [← hl] at hp
  have cp := hcc p (.int .i64 (low.getD p 0)) (by rw [intCells_app, List.getElem?_append_left (by rw [intCells_len]; omega), intCells_get low p (by omega)])
  have CP : ∀ V, Below w.heap.size w V → V.cell? ⟨bb, oo + p, none⟩ = some (.int .i64 (low.getD p 0)) := fun V hV => (hV.cell (p := ⟨bb, oo + p, none⟩) (by simp; omega)).trans cp
  have hpl : p < l := by omega
  have hpl2 : (p : Int) < (l : Int) := by omega
  generalize low.getD p 0 = z at *
  generalize hx' : a / 65536 = x at *
  clear hx'
  subst hm
  have hx1 : (x < 0) = True := by simpa using hx
  obtain ⟨y, hy⟩ : ∃ y : Int, y = (l : Int) - 1 := ⟨_, rfl⟩
  have e1 : wrap64 ((l : Int) - 1) = y := by simp [wrap64]; omega
  have e2 : wrap64 (y - 0) = (p : Int) := by simp [wrap64]; omega
  have e3 : wrap64 y = (p : Int) := by simp [wrap64]; omega
  have d1 : decide ((p : Int) < 0) = false := by simp
  clear hs hL hce hl0 hcc hlen hl48 ha hp hl hn0 hy hx
  go_enter Try.func56, Try.ntmps56
  go_wp2_with (first | (go_at_call 70; ((with_reducible refine (CB).mono ?_); rintro e w1 ⟨rfl, b1⟩); have ya := Ca _ b1; have yp := CP _ b1) | (go_at_call 71; ((with_reducible refine (CW _).mono ?_); rintro e w2 ⟨rfl, rfl⟩)))
  go_ret2
  exact ⟨some ⟨w1.heap.size, 0, none⟩, 1, rfl, (lists_row w1 [.int .i64 z] 3).more (by simp), (HS.out.below b1).below ((Below.refl _ _).alloc (Nat.le_refl _) _), (Mod.below b1).trans (Mod.below ((Below.refl _ _).alloc (Nat.le_refl _) _))⟩
set_option maxRecDepth 100000 in
set_option maxHeartbeats 2000000 in
theorem index_someP (q : Nat) (nv : Value) (At : Option Addr) (ct : Nat) (a : Int) (St ds : List Int) (low : List Int) (m p : Nat) (w : World) (hs : Sk w q nv (low ++ [a]) St ds) (hL : Lists w w.heap.size At (intCells [a])) (hx : a / 65536 = (m : Nat)) (hm : m ≤ 32768) (hp : p + m + 1 = low.length) :
    Calls Try.prog 56 #[.pointer (some ⟨q, 0, none⟩), .slice At 1 ct] w (Res q nv w 0 [low.getD p 0] (low ++ [a]) St ds) := by
  have HS := Lib.hid hs
  obtain ⟨b0, o0, rfl, hbl, hce⟩ := hL.plain (by simp [intCells])
  have Ca : ∀ V, Below w.heap.size w V → V.cell? ⟨b0, o0, none⟩ = some (.int .i64 a) := fun V hV => (hV.cell (p := ⟨b0, o0, none⟩) (by simp; omega)).trans (hce 0 _ rfl)
  have ya := Ca w (Below.refl _ _)
  obtain ⟨A0, n0, rfl, hl0, hn0⟩ := own_lists hs.own
  obtain ⟨l, hl⟩ : ∃ l, l = low.length := ⟨_, rfl⟩
  have hlen : (low ++ [a]).length = l + 1 := by rw [List.length_append, ← hl]; rfl
  have hl48 : l + 1 ≤ 48 := by rw [← hlen]; exact hs.len
  have ha : mayB a = true := hs.may a (by simp)
  have CB := below_any q A0 (l + 1) 1 n0 (low ++ [a]) St ds (some ⟨b0, o0, none⟩) ct w (by rw [hlen] at hs; exact hs) hlen.symm (by omega)
  rw [Nat.add_sub_cancel] at CB
  have CW := fun W => whole_may a W ha
  obtain ⟨bb, oo, rfl, hbb, hcc⟩ := hl0.plain (by simp [intCells])
  rw [← hl] at hp
  have cp := hcc p (.int .i64 (low.getD p 0)) (by rw [intCells_app, List.getElem?_append_left (by rw [intCells_len]; omega), intCells_get low p (by omega)])
  have CP : ∀ V, Below w.heap.size w V → V.cell? ⟨bb, oo + p, none⟩ = some (.int .i64 (low.getD p 0)) := fun V hV => (hV.cell (p := ⟨bb, oo + p, none⟩) (by simp; omega)).trans cp
  have hpl : p < l := by omega
  have hpl2 : (p : Int) < (l : Int) := by omega
  generalize low.getD p 0 = z at *
  generalize hx' : a / 65536 = x at *
  clear hx'
  subst hx
  have hm2 := hm
  obtain ⟨y, hy⟩ : ∃ y : Int, y = (l : Int) - 1 := ⟨_, rfl⟩
  have e1 : wrap64 ((l : Int) - 1) = y := by simp [wrap64]; omega
  have e2 : wrap64 (y - (m : Int)) = (p : Int) := by simp [wrap64]; omega
  have d1 : decide ((p : Int) < 0) = false := by simp
  clear hs hL hce hl0 hcc hlen hl48 ha hp hl hn0 hy hm hm2
  go_enter Try.func56, Try.ntmps56
  go_wp2_with (first | (go_at_call 70; ((with_reducible refine (CB).mono ?_); rintro e w1 ⟨rfl, b1⟩); have ya := Ca _ b1; have yp := CP _ b1) | (go_at_call 71; ((with_reducible refine (CW _).mono ?_); rintro e w2 ⟨rfl, rfl⟩)))
  go_ret2
  exact ⟨some ⟨w1.heap.size, 0, none⟩, 1, rfl, (lists_row w1 [.int .i64 z] 3).more (by simp), (HS.out.below b1).below ((Below.refl _ _).alloc (Nat.le_refl _) _), (Mod.below b1).trans (Mod.below ((Below.refl _ _).alloc (Nat.le_refl _) _))⟩
set_option maxRecDepth 100000 in
set_option maxHeartbeats 2000000 in
theorem index_noneN (q : Nat) (nv : Value) (At : Option Addr) (ct : Nat) (a : Int) (St ds : List Int) (low : List Int) (m p : Nat) (w : World) (hs : Sk w q nv (low ++ [a]) St ds) (hL : Lists w w.heap.size At (intCells [a])) (hx : a / 65536 < 0) (hm : m = 0) (hp : low.length ≤ m) :
    Calls Try.prog 56 #[.pointer (some ⟨q, 0, none⟩), .slice At 1 ct] w (Res q nv w 170 [] (low ++ [a]) St ds) := by
  have HS := Lib.hid hs
  obtain ⟨b0, o0, rfl, hbl, hce⟩ := hL.plain (by simp [intCells])
  have Ca : ∀ V, Below w.heap.size w V → V.cell? ⟨b0, o0, none⟩ = some (.int .i64 a) := fun V hV => (hV.cell (p := ⟨b0, o0, none⟩) (by simp; omega)).trans (hce 0 _ rfl)
  have ya := Ca w (Below.refl _ _)
  obtain ⟨A0, n0, rfl, hl0, hn0⟩ := own_lists hs.own
  obtain ⟨l, hl⟩ : ∃ l, l = low.length := ⟨_, rfl⟩
  have hlen : (low ++ [a]).length = l + 1 := by rw [List.length_append, ← hl]; rfl
  have hl48 : l + 1 ≤ 48 := by rw [← hlen]; exact hs.len
  have ha : mayB a = true := hs.may a (by simp)
  have CB := below_any q A0 (l + 1) 1 n0 (low ++ [a]) St ds (some ⟨b0, o0, none⟩) ct w (by rw [hlen] at hs; exact hs) hlen.symm (by omega)
  rw [Nat.add_sub_cancel] at CB
  have CW := fun W => whole_may a W ha
  obtain ⟨bb, oo, rfl, hbb, hcc⟩ := hl0.plain (by simp [intCells])
  generalize hx' : a / 65536 = x at *
  clear hx'
  subst hm
  have hx1 : (x < 0) = True := by simpa using hx
  obtain ⟨y, hy⟩ : ∃ y : Int, y = (l : Int) - 1 := ⟨_, rfl⟩
  have e1 : wrap64 ((l : Int) - 1) = y := by simp [wrap64]; omega
  obtain ⟨z, hz⟩ : ∃ z : Int, z = y - 0 := ⟨_, rfl⟩
  have e2 : wrap64 (y - 0) = z := by simp [wrap64]; omega
  have e3 : wrap64 y = z := by simp [wrap64]; omega
  have d1 : decide (z < 0) = true := by simp; omega
  clear hs hL hce hl0 hcc hlen hl48 ha hp hl hn0 hy hz hx
  go_enter Try.func56, Try.ntmps56
  go_wp2_with (first | (go_at_call 70; ((with_reducible refine (CB).mono ?_); rintro e w1 ⟨rfl, b1⟩); have ya := Ca _ b1) | (go_at_call 71; ((with_reducible refine (CW _).mono ?_); rintro e w2 ⟨rfl, rfl⟩)))
  go_ret2
  exact ⟨none, 0, rfl, Lists.empty _ _ _, HS.out.below b1, Mod.below b1⟩
set_option maxRecDepth 100000 in
set_option maxHeartbeats 2000000 in
theorem index_noneP (q : Nat) (nv : Value) (At : Option Addr) (ct : Nat) (a : Int) (St ds : List Int) (low : List Int) (m p : Nat) (w : World) (hs : Sk w q nv (low ++ [a]) St ds) (hL : Lists w w.heap.size At (intCells [a])) (hx : a / 65536 = (m : Nat)) (hm : m ≤ 32768) (hp : low.length ≤ m) :
    Calls Try.prog 56 #[.pointer (some ⟨q, 0, none⟩), .slice At 1 ct] w (Res q nv w 170 [] (low ++ [a]) St ds) := by
  have HS := Lib.hid hs
  obtain ⟨b0, o0, rfl, hbl, hce⟩ := hL.plain (by simp [intCells])
  have Ca : ∀ V, Below w.heap.size w V → V.cell? ⟨b0, o0, none⟩ = some (.int .i64 a) := fun V hV => (hV.cell (p := ⟨b0, o0, none⟩) (by simp; omega)).trans (hce 0 _ rfl)
  have ya := Ca w (Below.refl _ _)
  obtain ⟨A0, n0, rfl, hl0, hn0⟩ := own_lists hs.own
  obtain ⟨l, hl⟩ : ∃ l, l = low.length := ⟨_, rfl⟩
  have hlen : (low ++ [a]).length = l + 1 := by rw [List.length_append, ← hl]; rfl
  have hl48 : l + 1 ≤ 48 := by rw [← hlen]; exact hs.len
  have ha : mayB a = true := hs.may a (by simp)
  have CB := below_any q A0 (l + 1) 1 n0 (low ++ [a]) St ds (some ⟨b0, o0, none⟩) ct w (by rw [hlen] at hs; exact hs) hlen.symm (by omega)
  rw [Nat.add_sub_cancel] at CB
  have CW := fun W => whole_may a W ha
  obtain ⟨bb, oo, rfl, hbb, hcc⟩ := hl0.plain (by simp [intCells])
  generalize hx' : a / 65536 = x at *
  clear hx'
  subst hx
  have hm2 := hm
  obtain ⟨y, hy⟩ : ∃ y : Int, y = (l : Int) - 1 := ⟨_, rfl⟩
  have e1 : wrap64 ((l : Int) - 1) = y := by simp [wrap64]; omega
  obtain ⟨z, hz⟩ : ∃ z : Int, z = y - (m : Int) := ⟨_, rfl⟩
  have e2 : wrap64 (y - (m : Int)) = z := by simp [wrap64]; omega
  have d1 : decide (z < 0) = true := by simp; omega
  clear hs hL hce hl0 hcc hlen hl48 ha hp hl hn0 hy hz hm hm2
  go_enter Try.func56, Try.ntmps56
  go_wp2_with (first | (go_at_call 70; ((with_reducible refine (CB).mono ?_); rintro e w1 ⟨rfl, b1⟩); have ya := Ca _ b1) | (go_at_call 71; ((with_reducible refine (CW _).mono ?_); rintro e w2 ⟨rfl, rfl⟩)))
  go_ret2
  exact ⟨none, 0, rfl, Lists.empty _ _ _, HS.out.below b1, Mod.below b1⟩
end Go.Proofs.Ytkhafhdmcalhbaa

namespace Go.Proofs.Ytkhafhdmcalhbaa
open Go Go.RowKit
set_option linter.unusedVariables false
set_option linter.unusedSimpArgs false
theorem may_sz {a : Int} (h : mayB a = true) : mayB (max a (-a)) = true := by
  have h1 := mayB_lo h; have h2 := mayB_hi h
  unfold mayB; simp; omega
theorem may_neg {a : Int} (h : mayB a = true) : mayB (-a) = true := by
  have h1 := mayB_lo h; have h2 := mayB_hi h
  unfold mayB; simp; omega
theorem may_flag (b : Bool) : mayB (flagV b) = true := by cases b <;> rfl
theorem may_outR (x : Int) : mayB (outR x) = true := by
  unfold outR
  split
  · assumption
  · rfl
theorem may_mdR (a b c : Int) : mayB (mdR a b c) = true := by
  unfold mdR
  split
  · split
    · rfl
    · exact may_outR _
  · rfl
theorem cd_abs (q : Nat) (nv : Value) (low St ds : List Int) (a : Int) (w : World) (hs : Sk w q nv (low ++ [a]) St ds) :
    Calls Try.prog 14 #[.pointer (some ⟨q, 0, none⟩), .int .i64 9] w (Did q nv w 0 (low ++ [max a (-a)]) St ds) := 
  do_one_ok 9 41 (fun _ _ => rfl) q nv low St ds a w hs find_abs (max a (-a)) (fun w1 => size_any a (hs.may a (by simp)) w1) (may_sz (hs.may a (by simp)))
theorem cd_neg (q : Nat) (nv : Value) (low St ds : List Int) (a : Int) (w : World) (hs : Sk w q nv (low ++ [a]) St ds) :
    Calls Try.prog 14 #[.pointer (some ⟨q, 0, none⟩), .int .i64 14] w (Did q nv w 0 (low ++ [-a]) St ds) := 
  do_one_ok 14 42 (fun _ _ => rfl) q nv low St ds a w hs find_neg (-a) (fun w1 => turned_any a (hs.may a (by simp)) w1) (may_neg (hs.may a (by simp)))
theorem cd_not (q : Nat) (nv : Value) (low St ds : List Int) (a : Int) (w : World) (hs : Sk w q nv (low ++ [a]) St ds) :
    Calls Try.prog 14 #[.pointer (some ⟨q, 0, none⟩), .int .i64 5] w (Did q nv w 0 (low ++ [flagV (a == 0)]) St ds) := 
  do_one_ok 5 44 (fun _ _ => rfl) q nv low St ds a w hs find_not (flagV (a == 0)) (fun w1 => isZero_any a (hs.may a (by simp)) w1) (may_flag _)
theorem cd_and (q : Nat) (nv : Value) (low St ds : List Int) (a b : Int) (w : World) (hs : Sk w q nv (low ++ [a, b]) St ds) :
    Calls Try.prog 14 #[.pointer (some ⟨q, 0, none⟩), .int .i64 3] w (Did q nv w 0 (low ++ [flagV (a != 0 && b != 0)]) St ds) := 
  do_two_ok 3 49 (fun _ _ => rfl) q nv low St ds a b w hs find_and (flagV (a != 0 && b != 0)) (fun w1 => both_any a b (hs.may a (by simp)) (hs.may b (by simp)) w1) (may_flag _)
theorem cd_or (q : Nat) (nv : Value) (low St ds : List Int) (a b : Int) (w : World) (hs : Sk w q nv (low ++ [a, b]) St ds) :
    Calls Try.prog 14 #[.pointer (some ⟨q, 0, none⟩), .int .i64 4] w (Did q nv w 0 (low ++ [flagV (a != 0 || b != 0)]) St ds) := 
  do_two_ok 4 50 (fun _ _ => rfl) q nv low St ds a b w hs find_or (flagV (a != 0 || b != 0)) (fun w1 => either_any a b (hs.may a (by simp)) (hs.may b (by simp)) w1) (may_flag _)
theorem cd_eq (q : Nat) (nv : Value) (low St ds : List Int) (a b : Int) (w : World) (hs : Sk w q nv (low ++ [a, b]) St ds) :
    Calls Try.prog 14 #[.pointer (some ⟨q, 0, none⟩), .int .i64 15] w (Did q nv w 0 (low ++ [flagV (a == b)]) St ds) := 
  do_two_ok 15 51 (fun _ _ => rfl) q nv low St ds a b w hs find_eq (flagV (a == b)) (fun w1 => same_any a b (hs.may a (by simp)) (hs.may b (by simp)) w1) (may_flag _)
theorem cd_add_ok (q : Nat) (nv : Value) (low St ds : List Int) (a b : Int) (w : World) (hs : Sk w q nv (low ++ [a, b]) St ds) (hc : outE (a + b) = 0) :
    Calls Try.prog 14 #[.pointer (some ⟨q, 0, none⟩), .int .i64 10] w (Did q nv w 0 (low ++ [outR (a + b)]) St ds) := 
  do_two_ok 10 45 (fun _ _ => rfl) q nv low St ds a b w hs find_add (outR (a + b)) (fun w1 => by have h := add_yes a b w1 (by rw [(hs.may a (by simp)), (hs.may b (by simp))]; rfl); rwa [hc] at h) (may_outR _)
theorem cd_add_no (q : Nat) (nv : Value) (low St ds : List Int) (a b : Int) (w : World) (hs : Sk w q nv (low ++ [a, b]) St ds) (hc : outE (a + b) ≠ 0) :
    Calls Try.prog 14 #[.pointer (some ⟨q, 0, none⟩), .int .i64 10] w (Did q nv w (outE (a + b)) (low ++ [a, b]) St ds) := 
  do_two_no 10 45 (fun _ _ => rfl) q nv low St ds a b w hs find_add (outR (a + b)) (outE (a + b)) (fun w1 => add_yes a b w1 (by rw [(hs.may a (by simp)), (hs.may b (by simp))]; rfl)) hc
theorem cd_sub_ok (q : Nat) (nv : Value) (low St ds : List Int) (a b : Int) (w : World) (hs : Sk w q nv (low ++ [a, b]) St ds) (hc : outE (a - b) = 0) :
    Calls Try.prog 14 #[.pointer (some ⟨q, 0, none⟩), .int .i64 11] w (Did q nv w 0 (low ++ [outR (a - b)]) St ds) := 
  do_two_ok 11 46 (fun _ _ => rfl) q nv low St ds a b w hs find_sub (outR (a - b)) (fun w1 => by have h := sub_yes a b w1 (by rw [(hs.may a (by simp)), (hs.may b (by simp))]; rfl); rwa [hc] at h) (may_outR _)
theorem cd_sub_no (q : Nat) (nv : Value) (low St ds : List Int) (a b : Int) (w : World) (hs : Sk w q nv (low ++ [a, b]) St ds) (hc : outE (a - b) ≠ 0) :
    Calls Try.prog 14 #[.pointer (some ⟨q, 0, none⟩), .int .i64 11] w (Did q nv w (outE (a - b)) (low ++ [a, b]) St ds) := 
  do_two_no 11 46 (fun _ _ => rfl) q nv low St ds a b w hs find_sub (outR (a - b)) (outE (a - b)) (fun w1 => sub_yes a b w1 (by rw [(hs.may a (by simp)), (hs.may b (by simp))]; rfl)) hc
theorem cd_mul_ok (q : Nat) (nv : Value) (low St ds : List Int) (a b : Int) (w : World) (hs : Sk w q nv (low ++ [a, b]) St ds) (hc : mdE a b 65536 = 0) :
    Calls Try.prog 14 #[.pointer (some ⟨q, 0, none⟩), .int .i64 24] w (Did q nv w 0 (low ++ [mdR a b 65536]) St ds) := 
  do_two_ok 24 47 (fun _ _ => rfl) q nv low St ds a b w hs find_mul (mdR a b 65536) (fun w1 => by have h := mul_any a b w1; rwa [hc] at h) (may_mdR _ _ _)
theorem cd_mul_no (q : Nat) (nv : Value) (low St ds : List Int) (a b : Int) (w : World) (hs : Sk w q nv (low ++ [a, b]) St ds) (hc : mdE a b 65536 ≠ 0) :
    Calls Try.prog 14 #[.pointer (some ⟨q, 0, none⟩), .int .i64 24] w (Did q nv w (mdE a b 65536) (low ++ [a, b]) St ds) := 
  do_two_no 24 47 (fun _ _ => rfl) q nv low St ds a b w hs find_mul (mdR a b 65536) (mdE a b 65536) (fun w1 => mul_any a b w1) hc
theorem cd_div_ok (q : Nat) (nv : Value) (low St ds : List Int) (a b : Int) (w : World) (hs : Sk w q nv (low ++ [a, b]) St ds) (hc : mdE 65536 a b = 0) :
    Calls Try.prog 14 #[.pointer (some ⟨q, 0, none⟩), .int .i64 12] w (Did q nv w 0 (low ++ [mdR 65536 a b]) St ds) := 
  do_two_ok 12 48 (fun _ _ => rfl) q nv low St ds a b w hs find_div (mdR 65536 a b) (fun w1 => by have h := div_any a b w1; rwa [hc] at h) (may_mdR _ _ _)
theorem cd_div_no (q : Nat) (nv : Value) (low St ds : List Int) (a b : Int) (w : World) (hs : Sk w q nv (low ++ [a, b]) St ds) (hc : mdE 65536 a b ≠ 0) :
    Calls Try.prog 14 #[.pointer (some ⟨q, 0, none⟩), .int .i64 12] w (Did q nv w (mdE 65536 a b) (low ++ [a, b]) St ds) := 
  do_two_no 12 48 (fun _ _ => rfl) q nv low St ds a b w hs find_div (mdR 65536 a b) (mdE 65536 a b) (fun w1 => div_any a b w1) hc
/-- The greatest number whose square is at most n. -/
def rt : Nat → Nat
  | 0 => 0
  | n + 1 => if (rt n + 1) * (rt n + 1) ≤ n + 1 then rt n + 1 else rt n
theorem rt_is : ∀ n, rt n * rt n ≤ n ∧ n < (rt n + 1) * (rt n + 1)
  | 0 => ⟨Nat.le_refl _, by decide⟩
  | n + 1 => by
    obtain ⟨h1, h2⟩ := rt_is n
    unfold rt
    by_cases h : (rt n + 1) * (rt n + 1) ≤ n + 1
    · rw [if_pos h]
      refine ⟨h, ?_⟩
      have : (rt n + 1 + 1) * (rt n + 1 + 1) = (rt n + 1) * (rt n + 1) + 2 * (rt n + 1) + 1 := by rw [Nat.add_mul, Nat.mul_add, Nat.one_mul, Nat.mul_one]; omega
      omega
    · rw [if_neg h]
      omega
end Go.Proofs.Ytkhafhdmcalhbaa
