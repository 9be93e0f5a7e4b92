/- Part 18 of the proof: Rw2, Bag, Book, Carr, Nums, Free, Eith, Fat, All, New, Ops, Gly, Lin, Head, Read. -/
import Derived.LoopTactic
import Derived.Outline
import Derived.Shelf.Abstract
import Derived.Laws.Tables
import Derived.Laws.CopyOwn
import Derived.Test.YtekailhghjideaaCCm16

namespace Go.Proofs.Ytekailhghjideaa
open Go Go.RowKit

theorem RPut.alloc {w w' : World} {o : Obj} {q R : Nat} {F : Bool} {L E : List Value} {fp : List Nat} (h : RPut (w.alloc o) w' q R F L fp E) : RPut w w' q R F L fp E := by
  obtain ⟨fp', h1, h2, h3⟩ := h
  refine ⟨fp', h1, ((Only.refl w fp).alloc o).trans h2 (fun b hb => .inl hb), fun b hb => ?_⟩
  rcases h3 b hb with h | h
  · exact .inl h
  · right
    simp at h
    omega
theorem rbytes1_any (x : Int) (w : World) :
    Calls Try.prog 61 #[.int .i64 1, .int .i64 x] w fun e w' => e = .returned (.slice (some ⟨w.heap.size, 0, none⟩) 1 1) ∧ w' = w.alloc (.cells #[.int .u8 (x % 256)] 5) := by
  have hmk : ∀ w : World, (Instr.makeSlice 22 (.int .i64 1) (.int .i64 1)).run Try.prog w = .ok (.slice (some ⟨w.heap.size, 0, none⟩) 1 1) (w.alloc (.cells #[.int .u8 0] 5)) := fun w => by
    have h := run_make_row' (P := Try.prog) 22 5 (.int .u8 0) 1 Try.underlying22 u8Info rfl .i64 .i64 1 (by omega) (by omega) w
    rw [made_zeros] at h
    exact h
  go_enter Try.func61, Try.ntmps61
  go_wp2
  refine wp_loop_rounds 2 ?_
  rw [rounds_succ]
  go_wp2
  rw [rounds_succ]
  go_wp2
  go_ret
  exact ⟨rfl, rfl⟩
set_option maxRecDepth 100000 in
theorem ru1_any (q R : Nat) (F : Bool) (L : List Value) (fp : List Nat) (x : Int) (w : World) (hW : RWr w q R F L fp) (hR : R ≤ 1099511627776) :
    Calls Try.prog 33 #[.pointer (some ⟨q, 0, none⟩), .int .i64 1, .int .i64 x] w fun e w' => e = .returned (.tuple #[]) ∧ RPut w w' q R F L fp (be1 x) := by
  have C := rdata_any q R F L fp (some ⟨w.heap.size, 0, none⟩) 1 1 (w.alloc (.cells #[.int .u8 (x % 256)] 5)).heap.size (be1 x) (w.alloc (.cells #[.int .u8 (x % 256)] 5)) (hW.only ((Only.refl w []).alloc _) (fun _ _ h => (nomatch h))) hR (lists_new w _ _ _ (fun j u hu => by simpa [be1] using hu)) rfl (Nat.le_refl _) (be1_bytes x)
  have C1 := fun w => rbytes1_any x w
  clear hW hR
  go_enter Try.func33, Try.ntmps33
  go_wp2_with (first | (go_at_call 61; ((with_reducible refine (C1 _).mono ?_); rintro e w1 ⟨rfl, rfl⟩)) | (go_at_call 34; ((with_reducible refine (C).mono ?_); rintro e w1 ⟨rfl, hq⟩)))
  go_end0
  exact ⟨rfl, hq.alloc⟩
set_option maxRecDepth 100000 in
theorem rbytes2_any (x : Int) (w : World) :
    Calls Try.prog 61 #[.int .i64 2, .int .i64 x] w fun e w' => e = .returned (.slice (some ⟨w.heap.size, 0, none⟩) 2 2) ∧ w' = w.alloc (.cells #[.int .u8 (x / 256 % 256), .int .u8 (x % 256)] 5) := by
  have hmk : ∀ w : World, (Instr.makeSlice 22 (.int .i64 2) (.int .i64 2)).run Try.prog w = .ok (.slice (some ⟨w.heap.size, 0, none⟩) 2 2) (w.alloc (.cells #[.int .u8 0, .int .u8 0] 5)) := fun w => by
    have h := run_make_row' (P := Try.prog) 22 5 (.int .u8 0) 1 Try.underlying22 u8Info rfl .i64 .i64 2 (by omega) (by omega) w
    rw [made_zeros] at h
    exact h
  go_enter Try.func61, Try.ntmps61
  go_wp2
  refine wp_loop_rounds 3 ?_
  rw [rounds_succ]
  go_wp2
  rw [rounds_succ]
  go_wp2
  rw [rounds_succ]
  go_wp2
  go_ret
  exact ⟨rfl, rfl⟩
set_option maxRecDepth 100000 in
theorem ru2_any (q R : Nat) (F : Bool) (L : List Value) (fp : List Nat) (x : Int) (w : World) (hW : RWr w q R F L fp) (hR : R ≤ 1099511627776) :
    Calls Try.prog 33 #[.pointer (some ⟨q, 0, none⟩), .int .i64 2, .int .i64 x] w fun e w' => e = .returned (.tuple #[]) ∧ RPut w w' q R F L fp (be2 x) := by
  have C := rdata_any q R F L fp (some ⟨w.heap.size, 0, none⟩) 2 2 (w.alloc (.cells #[.int .u8 (x / 256 % 256), .int .u8 (x % 256)] 5)).heap.size (be2 x) (w.alloc (.cells #[.int .u8 (x / 256 % 256), .int .u8 (x % 256)] 5)) (hW.only ((Only.refl w []).alloc _) (fun _ _ h => (nomatch h))) hR (lists_new w _ _ _ (fun j u hu => by simpa [be2] using hu)) rfl (Nat.le_refl _) (be2_bytes x)
  have C1 := fun w => rbytes2_any x w
  clear hW hR
  go_enter Try.func33, Try.ntmps33
  go_wp2_with (first | (go_at_call 61; ((with_reducible refine (C1 _).mono ?_); rintro e w1 ⟨rfl, rfl⟩)) | (go_at_call 34; ((with_reducible refine (C).mono ?_); rintro e w1 ⟨rfl, hq⟩)))
  go_end0
  exact ⟨rfl, hq.alloc⟩
set_option maxRecDepth 100000 in
theorem rbytes4_any (x : Int) (w : World) :
    Calls Try.prog 61 #[.int .i64 4, .int .i64 x] w fun e w' => e = .returned (.slice (some ⟨w.heap.size, 0, none⟩) 4 4) ∧ w' = w.alloc (.cells #[.int .u8 (x / 16777216 % 256), .int .u8 (x / 65536 % 256), .int .u8 (x / 256 % 256), .int .u8 (x % 256)] 5) := by
  have hmk : ∀ w : World, (Instr.makeSlice 22 (.int .i64 4) (.int .i64 4)).run Try.prog w = .ok (.slice (some ⟨w.heap.size, 0, none⟩) 4 4) (w.alloc (.cells #[.int .u8 0, .int .u8 0, .int .u8 0, .int .u8 0] 5)) := fun w => by
    have h := run_make_row' (P := Try.prog) 22 5 (.int .u8 0) 1 Try.underlying22 u8Info rfl .i64 .i64 4 (by omega) (by omega) w
    rw [made_zeros] at h
    exact h
  go_enter Try.func61, Try.ntmps61
  go_wp2
  refine wp_loop_rounds 5 ?_
  rw [rounds_succ]
  go_wp2
  rw [rounds_succ]
  go_wp2
  rw [rounds_succ]
  go_wp2
  rw [rounds_succ]
  go_wp2
  rw [rounds_succ]
  go_wp2
  go_ret
  exact ⟨rfl, rfl⟩
set_option maxRecDepth 100000 in
theorem ru4_any (q R : Nat) (F : Bool) (L : List Value) (fp : List Nat) (x : Int) (w : World) (hW : RWr w q R F L fp) (hR : R ≤ 1099511627776) :
    Calls Try.prog 33 #[.pointer (some ⟨q, 0, none⟩), .int .i64 4, .int .i64 x] w fun e w' => e = .returned (.tuple #[]) ∧ RPut w w' q R F L fp (be4 x) := by
  have C := rdata_any q R F L fp (some ⟨w.heap.size, 0, none⟩) 4 4 (w.alloc (.cells #[.int .u8 (x / 16777216 % 256), .int .u8 (x / 65536 % 256), .int .u8 (x / 256 % 256), .int .u8 (x % 256)] 5)).heap.size (be4 x) (w.alloc (.cells #[.int .u8 (x / 16777216 % 256), .int .u8 (x / 65536 % 256), .int .u8 (x / 256 % 256), .int .u8 (x % 256)] 5)) (hW.only ((Only.refl w []).alloc _) (fun _ _ h => (nomatch h))) hR (lists_new w _ _ _ (fun j u hu => by simpa [be4] using hu)) rfl (Nat.le_refl _) (be4_bytes x)
  have C1 := fun w => rbytes4_any x w
  clear hW hR
  go_enter Try.func33, Try.ntmps33
  go_wp2_with (first | (go_at_call 61; ((with_reducible refine (C1 _).mono ?_); rintro e w1 ⟨rfl, rfl⟩)) | (go_at_call 34; ((with_reducible refine (C).mono ?_); rintro e w1 ⟨rfl, hq⟩)))
  go_end0
  exact ⟨rfl, hq.alloc⟩

end Go.Proofs.Ytekailhghjideaa

namespace Go.Proofs.Ytekailhghjideaa
open Go Go.RowKit

section
variable {P : Program} {ops : Array Oper} {Q : Exit → Act → World → Prop} {md : Region.Mode}

theorem bag_any (G : Array Bool → Act → World → Prop) (hstep : ∀ i listed a w, i ∈ Region.ready md ops listed → G listed a w → wpOp P ops Q i (G (listed.setIfInBounds i true)) a w)
    (hend : ∀ listed a w, Region.ready md ops listed = [] → G listed a w → Q .normal a w) :
    ∀ (fuel : Nat) (listed : Array Bool) (a : Act) (w : World), (listed.toList.filter (· == false)).length ≤ fuel → listed.size = ops.size → G listed a w → wpAny P md ops Q fuel listed a w
  | 0, listed, a, w, hn, hs, h => by
    have hr : Region.ready md ops listed = [] := by
      rw [List.eq_nil_iff_forall_not_mem]
      intro i hi
      obtain ⟨h1, o, ho, _⟩ := mem_ready.1 hi
      have hlt : i < listed.size := by rw [hs]; exact (Array.getElem?_eq_some_iff.1 ho).1
      have h2 : listed[i] = false := by simpa [hlt] using h1
      have : listed[i] ∈ listed.toList.filter (· == false) := List.mem_filter.2 ⟨by simp, by rw [h2]; rfl⟩
      rw [List.eq_nil_of_length_eq_zero (Nat.le_zero.1 hn)] at this
      cases this
    exact ⟨hr, hend _ _ _ hr h⟩
  | fuel + 1, listed, a, w, hn, hs, h => by
    refine ⟨fun hr => hend _ _ _ hr h, fun i hi => ?_⟩
    obtain ⟨h1, o, ho, _⟩ := mem_ready.1 hi
    have hlt : i < listed.size := by rw [hs]; exact (Array.getElem?_eq_some_iff.1 ho).1
    have h2 : listed[i] = false := by simpa [hlt] using h1
    have hlen : ((listed.setIfInBounds i true).toList.filter (· == false)).length ≤ fuel := by
      have hl : listed.toList = listed.toList.take i ++ false :: listed.toList.drop (i + 1) := by
        have h3 := List.take_append_drop i listed.toList
        rw [List.drop_eq_getElem_cons (by simpa using hlt)] at h3
        rw [← h2]
        simpa using h3.symm
      have hl2 : (listed.setIfInBounds i true).toList = listed.toList.take i ++ true :: listed.toList.drop (i + 1) := by
        rw [Array.toList_setIfInBounds, List.set_eq_take_append_cons_drop]
        simp [hlt]
      rw [hl] at hn
      rw [hl2]
      simp only [List.filter_append, List.length_append, List.filter_cons] at hn ⊢
      simp at hn ⊢
      omega
    exact wpOp_mono (fun a' w' hG => bag_any G hstep hend fuel _ a' w' hlen (by simpa using hs) hG) (hstep i listed a w hi h)

/-- THE LAW. -/
theorem wp_region_bag {id : Nat} {a : Act} {w : World} (G : Array Bool → Act → World → Prop) (hm : P.follows .mixedOrders = true) (h0 : G (Array.replicate ops.size false) a w.drew)
    (hstep : ∀ i listed a w, i ∈ Region.ready .any ops listed → G listed a w → wpOp P ops Q i (G (listed.setIfInBounds i true)) a w)
    (hend : ∀ listed a w, Region.ready .any ops listed = [] → G listed a w → Q .normal a w) : (Code.region id ops true).wp P Q a w := by
  refine wp_region_any hm ?_
  refine bag_any G hstep hend ops.size _ a w.drew ?_ (by simp) h0
  simp
end

end Go.Proofs.Ytekailhghjideaa

namespace Go.Proofs.Ytekailhghjideaa
open Go Go.RowKit

section
variable {P : Program} {ops : Array Oper} {Q : Exit → Act → World → Prop}

theorem below_tr {w a c : World} (h : Below w.heap.size w a) (k : Below a.heap.size a c) : Below w.heap.size w c := h.trans (k.mono h.size)

structure BookG (ops : Array Oper) (dst : Nat → Nat) (dep : Nat → List Nat) (eats : Nat → Nat → Bool) (fact : Nat → (Nat → Value) → World → List Nat → Prop) (a0 : Act) (w0 : World) (listed : Array Bool) (a : Act) (w : World) (V : Nat → Value) (F : Nat → List Nat) : Prop where
  size : a.tmps.size = a0.tmps.size
  zero : a.tmps[0]? = a0.tmps[0]?
  defers : a.defers = a0.defers
  below : Below w0.heap.size w0 w
  lsize : listed.size = ops.size
  closed : ∀ i, listed.getD i false = true → ∀ k ∈ dep i, listed.getD k false = true
  val : ∀ i, listed.getD i false = true → a.tmps[dst i]? = some (V i)
  fact : ∀ i, listed.getD i false = true → fact i V w (F i)
  low : ∀ i, listed.getD i false = true → ∀ b ∈ F i, w0.heap.size ≤ b ∧ b < w.heap.size
  sep : ∀ i j, listed.getD i false = true → listed.getD j false = true → i ≠ j → eats i j = false → eats j i = false → ∀ b ∈ F i, b ∉ F j

theorem getD_set {l : Array Bool} {i j : Nat} (h : (l.setIfInBounds i true).getD j false = true) : j = i ∨ l.getD j false = true := by
  by_cases hi : j = i
  · exact .inl hi
  · right
    rw [Array.getD_eq_getD_getElem?, Array.getElem?_setIfInBounds, if_neg (Ne.symm hi)] at h
    rw [Array.getD_eq_getD_getElem?]
    exact h

theorem wp_region_book {id : Nat} {a : Act} {w : World} (hm : P.follows .mixedOrders = true) (dst : Nat → Nat) (hdst : ∀ (i : Nat) (o : Oper), ops[i]? = some o → o.dst = some (dst i))
    (hinj : ∀ i j, i < ops.size → j < ops.size → dst i = dst j → i = j) (hN : ∀ i, i < ops.size → dst i < a.tmps.size ∧ dst i ≠ 0)
    (dep : Nat → List Nat) (hdep : ∀ (i : Nat) (o : Oper), ops[i]? = some o → ∀ k ∈ dep i, k < i ∧ ∃ e ∈ o.after, Region.binds .any e = true ∧ e.on = k) (hback : ∀ (i : Nat) (o : Oper), ops[i]? = some o → ∀ e ∈ o.after, e.on < i)
    (eats : Nat → Nat → Bool) (hone : ∀ j k i, eats j k = true → i ≠ j → eats i k = false ∧ eats k i = false)
    (fact : Nat → (Nat → Value) → World → List Nat → Prop)
    (hst : ∀ i V V1 w w1 F, fact i V w F → (∀ k, k = i ∨ k ∈ dep i → V1 k = V k) → Below w.heap.size w w1 → fact i V1 w1 F)
    (hstep : ∀ (i : Nat) (o : Oper), ops[i]? = some o → ∀ (a1 : Act) (w1 : World) (V : Nat → Value) (F : Nat → List Nat), a1.tmps.size = a.tmps.size → a1.tmps[0]? = a.tmps[0]? → Below w.heap.size w w1 → (∀ k ∈ dep i, a1.tmps[dst k]? = some (V k) ∧ fact k V w1 (F k)) →
      StepO P ops o a1 w1 fun v w2 => Below w1.heap.size w1 w2 ∧ ∃ Fi, fact i (fun k => if k = i then v else V k) w2 Fi ∧ (∀ b ∈ Fi, (∃ k ∈ dep i, eats i k = true ∧ b ∈ F k) ∨ w1.heap.size ≤ b) ∧ ∀ b ∈ Fi, b < w2.heap.size)
    (hend : ∀ (a1 : Act) (w1 : World) (V : Nat → Value) (F : Nat → List Nat) (listed : Array Bool), (∀ i, i < ops.size → listed.getD i false = true) → BookG ops dst dep eats fact a w listed a1 w1 V F → Q .normal a1 w1) : (Code.region id ops true).wp P Q a w := by
  refine wp_region_bag (fun listed a1 w1 => ∃ V F, BookG ops dst dep eats fact a w listed a1 w1 V F) hm ?_ ?_ ?_
  · have hno : ∀ i, (Array.replicate ops.size false).getD i false = true → False := fun i h => by
      rw [Array.getD_eq_getD_getElem?, Array.getElem?_replicate] at h
      split at h <;> simp at h
    exact ⟨fun _ => undef, fun _ => [], rfl, rfl, rfl, (Below.refl _ _).drew, by simp, fun i h => (hno i h).elim, fun i h => (hno i h).elim, fun i h => (hno i h).elim, fun i h => (hno i h).elim, fun i j h => (hno i h).elim⟩
  · rintro i listed a1 w1 hi ⟨V, F, g⟩
    obtain ⟨h1, o, ho, h2⟩ := mem_ready.1 hi
    have hlt : i < ops.size := (Array.getElem?_eq_some_iff.1 ho).1
    have hnl : ∀ j, listed.getD j false = true → j ≠ i := by
      rintro j hj rfl
      rw [Array.getD_eq_getD_getElem?] at h1 hj
      have : j < listed.size := by rw [g.lsize]; exact hlt
      rw [Array.getElem?_eq_getElem this] at h1 hj
      simp at h1 hj
      rw [h1] at hj
      cases hj
    have hd : ∀ k ∈ dep i, listed.getD k false = true := fun k hk => by
      obtain ⟨_, e, he, hb, rfl⟩ := hdep i o ho k hk
      exact h2 e he hb
    have hjlt : ∀ j, listed.getD j false = true → j < ops.size := fun j hj => by
      rcases Nat.lt_or_ge j listed.size with h | h
      · rw [g.lsize] at h; exact h
      · rw [Array.getD_eq_getD_getElem?, Array.getElem?_eq_none h] at hj; cases hj
    refine StepO.wpOp ho ((hstep i o ho a1 w1 V F g.size g.zero g.below fun k hk => ⟨g.val k (hd k hk), g.fact k (hd k hk)⟩).mono ?_)
    rintro v w2 ⟨hb, Fi, hf, hin, hlow⟩
    have hVi : ∀ j, listed.getD j false = true → (fun k => if k = i then v else V k) j = V j := fun j hj => if_neg (hnl j hj)
    have hFi : ∀ j, listed.getD j false = true → (fun k => if k = i then Fi else F k) j = F j := fun j hj => if_neg (hnl j hj)
    have hput : a1.put o.dst v = { a1 with tmps := a1.tmps.setIfInBounds (dst i) v } := by rw [hdst i o ho]; rfl
    have hsepi : ∀ j, listed.getD j false = true → eats i j = false → eats j i = false → ∀ b ∈ Fi, b ∉ F j := by
      intro j hj e1 e2 b hbi hbj
      rcases hin b hbi with ⟨k, hk, hek, hbk⟩ | hbi
      · have hkj : k ≠ j := by rintro rfl; rw [hek] at e1; cases e1
        obtain ⟨q1, q2⟩ := hone i k j hek (hnl j hj)
        exact g.sep k j (hd k hk) hj hkj q2 q1 b hbk hbj
      · have := (g.low j hj b hbj).2
        omega
    refine ⟨fun k => if k = i then v else V k, fun k => if k = i then Fi else F k, ?_, ?_, ?_, below_tr g.below hb, by simpa using g.lsize, ?_, ?_, ?_, ?_, ?_⟩
    · rw [hput]; simpa using g.size
    · rw [hput]
      show (a1.tmps.setIfInBounds (dst i) v)[0]? = _
      rw [Array.getElem?_setIfInBounds, if_neg (hN i hlt).2]
      exact g.zero
    · rw [hput]; exact g.defers
    · intro j hj k hk
      have hkl : listed.getD k false = true := by
        rcases getD_set hj with rfl | hj
        · exact hd k hk
        · exact g.closed j hj k hk
      have hki := hnl k hkl
      rw [Array.getD_eq_getD_getElem?, Array.getElem?_setIfInBounds, if_neg (Ne.symm hki), ← Array.getD_eq_getD_getElem?]
      exact hkl
    · intro j hj
      rw [hput]
      show (a1.tmps.setIfInBounds (dst i) v)[dst j]? = _
      rcases getD_set hj with rfl | hj
      · rw [Array.getElem?_setIfInBounds, if_pos rfl, if_pos (by rw [g.size]; exact (hN _ hlt).1), if_pos rfl]
      · rw [Array.getElem?_setIfInBounds, if_neg (fun e => hnl j hj (hinj i j hlt (hjlt j hj) e).symm), if_neg (hnl j hj)]
        exact g.val j hj
    · intro j hj
      rcases getD_set hj with rfl | hj
      · rw [if_pos rfl]; exact hf
      · rw [if_neg (hnl j hj)]
        refine hst j V _ w1 w2 (F j) (g.fact j hj) (fun k hk => ?_) hb
        rcases hk with rfl | hk
        · exact hVi _ hj
        · exact hVi k (g.closed j hj k hk)
    · intro j hj b hbj
      rcases getD_set hj with rfl | hj
      · rw [if_pos rfl] at hbj
        refine ⟨?_, hlow b hbj⟩
        rcases hin b hbj with ⟨k, hk, _, hbk⟩ | h
        · exact (g.low k (hd k hk) b hbk).1
        · exact Nat.le_trans g.below.size h
      · rw [if_neg (hnl j hj)] at hbj
        have := g.low j hj b hbj
        exact ⟨this.1, Nat.lt_of_lt_of_le this.2 hb.size⟩
    · intro j1 j2 h1 h2 hne e1 e2 b hb1 hb2
      rcases getD_set h1 with l1 | l1
      · subst l1
        rw [if_pos rfl] at hb1
        rcases getD_set h2 with l2 | l2
        · exact hne l2.symm
        · rw [if_neg (hnl _ l2)] at hb2
          exact hsepi _ l2 e1 e2 b hb1 hb2
      · rw [if_neg (hnl _ l1)] at hb1
        rcases getD_set h2 with l2 | l2
        · subst l2
          rw [if_pos rfl] at hb2
          exact hsepi _ l1 e2 e1 b hb2 hb1
        · rw [if_neg (hnl _ l2)] at hb2
          exact g.sep _ _ l1 l2 hne e1 e2 b hb1 hb2
  · rintro listed a1 w1 hr ⟨V, F, g⟩
    refine hend a1 w1 V F listed (fun i => ?_) g
    induction i using Nat.strongRecOn with
    | ind i ih =>
      intro hlt
      have hl : i < listed.size := by rw [g.lsize]; exact hlt
      cases hv : listed[i] with
      | true => rw [Array.getD_eq_getD_getElem?, Array.getElem?_eq_getElem hl, hv]; rfl
      | false =>
        have hmem : i ∈ Region.ready .any ops listed := by
          refine mem_ready.2 ⟨by rw [Array.getD_eq_getD_getElem?, Array.getElem?_eq_getElem hl, hv]; rfl, ops[i], Array.getElem?_eq_getElem hlt, fun e he _ => ?_⟩
          have := hback i _ (Array.getElem?_eq_getElem hlt) e he
          exact ih e.on this (by omega)
        rw [hr] at hmem
        cases hmem
end

end Go.Proofs.Ytekailhghjideaa

namespace Go.Proofs.Ytekailhghjideaa
open Go Go.RowKit

/-- A type of blocks that no reader and no writer writes. -/
def plain (T : TypeId) : Bool := T != 5 && T != 94 && T != 87 && T != 71
theorem plain_ne {T : TypeId} (h : plain T = true) : T ≠ 5 ∧ T ≠ 94 ∧ T ≠ 87 ∧ T ≠ 71 := by
  unfold plain at h
  simp only [Bool.and_eq_true, bne_iff_ne, ne_eq] at h
  exact ⟨h.1.1.1, h.1.1.2, h.1.2, h.2⟩
/-- Plain blocks stay, but for b. -/
def Keeps (w w' : World) (b : Nat) : Prop := w.heap.size ≤ w'.heap.size ∧ ∀ (q : Nat) (T : TypeId) (cs : Array Value), plain T = true → q ≠ b → Blk w q T cs → Blk w' q T cs
theorem Keeps.refl (w : World) (b : Nat) : Keeps w w b := ⟨Nat.le_refl _, fun _ _ _ _ _ h => h⟩
theorem Keeps.trans {w a c : World} {b : Nat} (h : Keeps w a b) (k : Keeps a c b) : Keeps w c b := ⟨Nat.le_trans h.1 k.1, fun q T cs hT hq hb => k.2 q T cs hT hq (h.2 q T cs hT hq hb)⟩
theorem Keeps.of_below {w a : World} (h : Below w.heap.size w a) (b : Nat) : Keeps w a b := ⟨h.size, fun _ _ _ _ _ k => k.below h⟩
/-- Where b itself is new. -/
theorem Keeps.new {w a c : World} {b b1 : Nat} (h : Below w.heap.size w a) (k : Keeps a c b) (hb : w.heap.size ≤ b) : Keeps w c b1 := ⟨Nat.le_trans h.size k.1, fun q T cs hT _ hq => k.2 q T cs hT (by have := hq.lt; omega) (hq.below h)⟩
theorem Keeps.only {w a : World} {b : Nat} (h : Only w a [b]) : Keeps w a b := ⟨h.size, fun _ _ _ _ hq k => k.only h (by simpa using hq)⟩

/-- A number was carried: the place, a cell of block b, has v. -/
def Carried {σ : Type} (I : σ → World → Prop) (w : World) (b : Nat) (T : TypeId) (cs : Array Value) (o : Nat) (s : σ) (v : Int) (e : Ending) (w' : World) : Prop :=
  e = .returned (.tuple #[]) ∧ I s w' ∧ Blk w' b T (cs.setIfInBounds o (.int .i64 v)) ∧ Keeps w w' b

structure Carr {σ : Type} (g : FuncId) (lb : Array Value) (I : σ → World → Prop) (Ok : Nat → Prop) (len : σ → Nat) (R : Nat) (step : Nat → σ → Int → σ) (val : Nat → σ → Int → Int) : Prop where
  eg : ∀ args w, (callFunc g args).run Try.prog w = .ok (.enter g args) w
  below : ∀ s w w', I s w → Below w.heap.size w w' → I s w'
  store : ∀ s w w' b T cs, I s w → Ok b → plain T = true → Blk w b T cs → Only w w' [b] → I s w'
  fresh : ∀ s w b, I s w → w.heap.size ≤ b → Ok b
  size : ∀ kd s x, kd < 4 → len (step kd s x) = len s + wid kd
  call : ∀ w s kd b o T cs x, kd < 4 → I s w → Ok b → plain T = true → Blk w b T cs → cs[o]? = some (.int .i64 x) → len s + wid kd ≤ R →
    Calls Try.prog g (#[.int .i64 (kd : Nat), .pointer (some ⟨b, o, none⟩)] ++ lb) w (Carried I w b T cs o (step kd s x) (val kd s x))

/-- The state of the reader behind from. -/
def IFrom (q : Nat → Prop) (r p : Nat) (bs : List Value) (k : Nat) (w : World) : Prop := RS q w p bs k ∧ Blk w r 42 #[.pointer (some ⟨p, 0, none⟩)] ∧ (∃ cs, Blk w p 71 cs) ∧ ∀ b, q b → b < w.heap.size
theorem rd_blk {q : Nat → Prop} {w : World} {p i : Nat} {bs : List Value} {bad : Bool} (h : Rd q w p bs i bad) : ∃ cs, Blk w p 71 cs := by
  obtain ⟨_, _, h, _⟩ := h
  exact ⟨_, h⟩
theorem rs_blk {q : Nat → Prop} {w : World} {p k : Nat} {bs : List Value} (h : RS q w p bs k) : ∃ cs, Blk w p 71 cs := by
  rcases h with ⟨_, h⟩ | ⟨_, _, h⟩ <;> exact rd_blk h
theorem blk_ne {w : World} {b p : Nat} {T T1 : TypeId} {cs cs1 : Array Value} (h : Blk w b T cs) (k : Blk w p T1 cs1) (hT : T ≠ T1) : b ≠ p := by
  rintro rfl
  unfold Blk at h k
  rw [h] at k
  injection k with k
  injection k with _ e
  exact hT e
/-- The state of the writer behind into. -/
def IInto (w0 : World) (r p R : Nat) (L : List Value) (w : World) : Prop := WS w0 w p R L ∧ Blk w r 54 #[.pointer (some ⟨p, 0, none⟩)]
theorem WS.store {w0 w w' : World} {p R b : Nat} {L : List Value} {T : TypeId} {cs : Array Value} (h : WS w0 w p R L) (hb : Blk w b T cs) (hT : plain T = true) (o : Only w w' [b]) (h0 : w0.heap.size ≤ b) : WS w0 w' p R L := by
  obtain ⟨fp, hW, b0, hf⟩ := h
  refine ⟨fp, hW.only o ?_, b0.trans (o.to_below b0.size (by simpa using h0)), hf⟩
  obtain ⟨n1, n2, n3, _⟩ := plain_ne hT
  obtain ⟨D, G, dv, gv, hb1, hd, hg, _, _, _, _, rfl⟩ := hW
  intro x hx hm
  obtain rfl : x = b := by simpa using hm
  rcases List.mem_cons.1 hx with rfl | hm
  · exact blk_ne hb hb1 n3 rfl
  · rcases List.mem_append.1 hm with hm | hm
    · exact own_ne hd hb n1.symm hm
    · exact own_ne hg hb n2.symm hm
theorem set_same {cs : Array Value} {o : Nat} {v : Value} (h : cs[o]? = some v) : cs.setIfInBounds o v = cs := by
  apply Array.ext_getElem?
  intro i
  rw [Array.getElem?_setIfInBounds]
  by_cases hi : o = i
  · subst hi
    rw [if_pos rfl, h]
    have : o < cs.size := by
      rcases Nat.lt_or_ge o cs.size with h1 | h1
      · exact h1
      · rw [Array.getElem?_eq_none h1] at h; cases h
    rw [if_pos this]
  · rw [if_neg hi]
end Go.Proofs.Ytekailhghjideaa

namespace Go.Proofs.Ytekailhghjideaa
open Go Go.RowKit

/-- The number at a place. -/
def intAt (cs : Array Value) (o : Nat) : Int :=
  match cs[o]? with
  | some (.int _ x) => x
  | _ => 0
def Ints (cs : Array Value) (os : List Nat) : Prop := ∀ o ∈ os, ∃ x, cs[o]? = some (.int .i64 x)
theorem Ints.at {cs : Array Value} {os : List Nat} (h : Ints cs os) {o : Nat} (ho : o ∈ os) : cs[o]? = some (.int .i64 (intAt cs o)) := by
  obtain ⟨x, hx⟩ := h o ho
  unfold intAt
  rw [hx]
theorem Ints.set {cs : Array Value} {os : List Nat} (h : Ints cs os) (o : Nat) (v : Int) : Ints (cs.setIfInBounds o (.int .i64 v)) os := by
  intro o1 h1
  obtain ⟨x, hx⟩ := h o1 h1
  rw [Array.getElem?_setIfInBounds]
  by_cases he : o = o1
  · subst he
    have : o < cs.size := by
      rcases Nat.lt_or_ge o cs.size with h2 | h2
      · exact h2
      · rw [Array.getElem?_eq_none h2] at hx; cases hx
    rw [if_pos rfl, if_pos this]
    exact ⟨v, rfl⟩
  · rw [if_neg he]
    exact ⟨x, hx⟩

section
variable {σ : Type}
/-- What a field of numbers comes to. -/
def numRun (step : Nat → σ → Int → σ) (val : Nat → σ → Int → Int) (kd : Nat) (la lb2 : Int) : List Nat → σ → Array Value → Bool → Bool × σ × Array Value
  | [], s, cs, m => (m, s, cs)
  | o :: os, s, cs, m =>
    let v := val kd s (intAt cs o)
    numRun step val kd la lb2 os (step kd s (intAt cs o)) (cs.setIfInBounds o (.int .i64 v)) ((m && decide (la ≤ v)) && decide (v ≤ lb2))
theorem numRun_nil (step : Nat → σ → Int → σ) (val : Nat → σ → Int → Int) (kd : Nat) (la lb2 : Int) (s : σ) (cs : Array Value) (m : Bool) : numRun step val kd la lb2 [] s cs m = (m, s, cs) := rfl
theorem numRun_cons (step : Nat → σ → Int → σ) (val : Nat → σ → Int → Int) (kd : Nat) (la lb2 : Int) (o : Nat) (os : List Nat) (s : σ) (cs : Array Value) (m : Bool) :
    numRun step val kd la lb2 (o :: os) s cs m = numRun step val kd la lb2 os (step kd s (intAt cs o)) (cs.setIfInBounds o (.int .i64 (val kd s (intAt cs o)))) ((m && decide (la ≤ val kd s (intAt cs o))) && decide (val kd s (intAt cs o) ≤ lb2)) := rfl
/-- A field was carried. -/
def Ran (I : σ → World → Prop) (w : World) (X : Nat) (T : TypeId) (r : Bool × σ × Array Value) (e : Ending) (w' : World) : Prop :=
  e = .returned (.bool r.1) ∧ I r.2.1 w' ∧ Blk w' X T r.2.2 ∧ Keeps w w' X

def ptrs (X : Nat) (os : List Nat) : Array Value := (os.map fun o => Value.pointer (some ⟨X, o, none⟩)).toArray

variable {gc : FuncId} {lbc : Array Value} {I : σ → World → Prop} {Ok : Nat → Prop} {len : σ → Nat} {R : Nat} {step : Nat → σ → Int → σ} {val : Nat → σ → Int → Int}
end

end Go.Proofs.Ytekailhghjideaa

namespace Go.Proofs.Ytekailhghjideaa
open Go Go.RowKit

section
variable {σ : Type} {gc : FuncId} {lbc : Array Value} {I : σ → World → Prop} {Ok : Nat → Prop} {len : σ → Nat} {R : Nat} {step : Nat → σ → Int → σ} {val : Nat → σ → Int → Int}

/-- What free bytes come to. -/
def freeRun (step : Nat → σ → Int → σ) : Nat → σ → σ
  | 0, s => s
  | n + 1, s => freeRun step n (step 0 s 0)
theorem freeRun_succ (step : Nat → σ → Int → σ) (n : Nat) (s : σ) : freeRun step (n + 1) s = freeRun step n (step 0 s 0) := rfl

end

end Go.Proofs.Ytekailhghjideaa

namespace Go.Proofs.Ytekailhghjideaa
open Go Go.RowKit

section
variable {σ : Type} {gc : FuncId} {lbc : Array Value} {I : σ → World → Prop} {Ok : Nat → Prop} {len : σ → Nat} {R : Nat} {step : Nat → σ → Int → σ} {val : Nat → σ → Int → Int}

/-- What a flag comes to, where x is put. -/
def eithRun (step : Nat → σ → Int → σ) (val : Nat → σ → Int → Int) (kd : Nat) (no yes : Int) (o : Nat) (x : Int) (s : σ) (cs : Array Value) : Bool × σ × Array Value :=
  ((val kd s x == no) || (val kd s x == yes), step kd s x, cs.setIfInBounds o (.bool (val kd s x == yes)))

/-- What a field beside a flag comes to, where the field is free. -/
def condRun (step : Nat → σ → Int → σ) (f : Bool) (n : Nat) (s : σ) (cs : Array Value) : Bool × σ × Array Value := (true, if f then freeRun step n s else s, cs)
end

end Go.Proofs.Ytekailhghjideaa

namespace Go.Proofs.Ytekailhghjideaa
open Go Go.RowKit

/-- Plain blocks stay, but for those of P. -/
def KeepsP (w w' : World) (P : Nat → Prop) : Prop := w.heap.size ≤ w'.heap.size ∧ ∀ (q : Nat) (T : TypeId) (cs : Array Value), plain T = true → ¬ P q → Blk w q T cs → Blk w' q T cs
theorem KeepsP.refl (w : World) (P : Nat → Prop) : KeepsP w w P := ⟨Nat.le_refl _, fun _ _ _ _ _ h => h⟩
theorem KeepsP.trans {w a c : World} {P : Nat → Prop} (h : KeepsP w a P) (k : KeepsP a c P) : KeepsP w c P := ⟨Nat.le_trans h.1 k.1, fun q T cs hT hq hb => k.2 q T cs hT hq (h.2 q T cs hT hq hb)⟩
theorem KeepsP.more {w a : World} {P Q : Nat → Prop} (h : KeepsP w a P) (hs : ∀ b, P b → Q b) : KeepsP w a Q := ⟨h.1, fun q T cs hT hq hb => h.2 q T cs hT (fun hp => hq (hs q hp)) hb⟩
theorem KeepsP.of_below {w a : World} (h : Below w.heap.size w a) (P : Nat → Prop) : KeepsP w a P := ⟨h.size, fun _ _ _ _ _ k => k.below h⟩
theorem Keeps.p {w a : World} {b : Nat} {P : Nat → Prop} (h : Keeps w a b) (hb : P b) : KeepsP w a P := ⟨h.1, fun q T cs hT hq k => h.2 q T cs hT (fun e => hq (e ▸ hb)) k⟩

inductive FD where
  | nums (kd : Nat) (la lb : Int) (os : List Nat)
  | just (kd : Nat) (x : Int)
  | free (n : Nat)
  | eith (kd : Nat) (no yes : Int) (o : Nat)
  | cond (o n : Nat)

section
variable {σ : Type} {gc : FuncId} {lbc : Array Value} {I : σ → World → Prop} {Ok : Nat → Prop} {len : σ → Nat} {R : Nat} {step : Nat → σ → Int → σ} {val : Nat → σ → Int → Int}

def boolAt (cs : Array Value) (o : Nat) : Bool :=
  match cs[o]? with
  | some (.bool f) => f
  | _ => false
/-- What a field comes to. -/
def fdRun (step : Nat → σ → Int → σ) (val : Nat → σ → Int → Int) (s : σ) (cs : Array Value) : FD → Bool × σ × Array Value
  | .nums kd la lb os => numRun step val kd la lb os s cs true
  | .just kd x => (decide (x ≤ val kd s x) && decide (val kd s x ≤ x), step kd s x, cs)
  | .free n => (true, freeRun step n s, cs)
  | .eith kd no yes o => eithRun step val kd no yes o (if boolAt cs o then yes else no) s cs
  | .cond o n => condRun step (boolAt cs o) n s cs
def fdLen : FD → Nat
  | .nums kd _ _ os => wid kd * os.length
  | .just kd _ => wid kd
  | .free n => n
  | .eith kd _ _ _ => wid kd
  | .cond _ n => n
/-- The shape of a struct: its numbers and its flags. -/
def Sh (is bs : List Nat) (cs : Array Value) : Prop := Ints cs is ∧ ∀ o ∈ bs, ∃ f, cs[o]? = some (.bool f)
def fdOk (is bs : List Nat) : FD → Prop
  | .nums kd _ _ os => kd < 4 ∧ (∀ o ∈ os, o ∈ is) ∧ os.length ≤ 1099511627776
  | .just kd _ => kd < 4
  | .free n => n ≤ 1099511627776
  | .eith kd _ _ o => kd < 4 ∧ o ∈ bs
  | .cond o n => o ∈ bs ∧ n ≤ 1099511627776
theorem Sh.flag {is bs : List Nat} {cs : Array Value} (h : Sh is bs cs) {o : Nat} (ho : o ∈ bs) : cs[o]? = some (.bool (boolAt cs o)) := by
  obtain ⟨f, hf⟩ := h.2 o ho
  unfold boolAt
  rw [hf]
theorem get_set {cs : Array Value} {o o1 : Nat} {v : Value} (h : o ≠ o1) : (cs.setIfInBounds o v)[o1]? = cs[o1]? := by rw [Array.getElem?_setIfInBounds, if_neg h]
theorem Sh.int {is bs : List Nat} {cs : Array Value} (h : Sh is bs cs) {o : Nat} (ho : o ∈ is) (hd : ∀ o ∈ is, o ∉ bs) (v : Int) : Sh is bs (cs.setIfInBounds o (.int .i64 v)) :=
  ⟨h.1.set o v, fun o1 h1 => by rw [get_set (by rintro rfl; exact hd _ ho h1)]; exact h.2 o1 h1⟩
theorem Sh.num {is bs : List Nat} (hd : ∀ o ∈ is, o ∉ bs) (kd : Nat) (la lb : Int) : ∀ (os : List Nat) (s : σ) (cs : Array Value) (m : Bool), (∀ o ∈ os, o ∈ is) → Sh is bs cs → Sh is bs (numRun step val kd la lb os s cs m).2.2
  | [], s, cs, m, _, h => h
  | o :: os, s, cs, m, ho, h => by
    rw [numRun_cons]
    exact Sh.num hd kd la lb os _ _ _ (fun x hx => ho x (by simp [hx])) (h.int (ho o (by simp)) hd _)
theorem Sh.run {is bs : List Nat} {cs : Array Value} {s : σ} {d : FD} (h : Sh is bs cs) (hd : ∀ o ∈ is, o ∉ bs) (hk : fdOk is bs d) : Sh is bs (fdRun step val s cs d).2.2 := by
  cases d with
  | nums kd la lb os => exact Sh.num hd kd la lb os s cs true hk.2.1 h
  | just kd x => exact h
  | free n => exact h
  | eith kd no yes o =>
    refine ⟨fun o1 h1 => ?_, fun o1 h1 => ?_⟩
    · show ∃ x, (cs.setIfInBounds o (.bool _))[o1]? = _
      rw [get_set (by rintro rfl; exact hd _ h1 hk.2)]
      exact h.1 o1 h1
    · show ∃ f, (cs.setIfInBounds o (.bool _))[o1]? = _
      by_cases he : o = o1
      · subst he
        obtain ⟨f, hf⟩ := h.2 o h1
        have : o < cs.size := by
          rcases Nat.lt_or_ge o cs.size with h2 | h2
          · exact h2
          · rw [Array.getElem?_eq_none h2] at hf; cases hf
        rw [Array.getElem?_setIfInBounds, if_pos rfl, if_pos this]
        exact ⟨_, rfl⟩
      · rw [get_set he]
        exact h.2 o1 h1
  | cond o n => exact h
theorem free_len (K : Carr gc lbc I Ok len R step val) : ∀ (n : Nat) (s : σ), len (freeRun step n s) = len s + n
  | 0, s => rfl
  | n + 1, s => by
    rw [freeRun_succ, free_len K n, K.size 0 s 0 (by decide)]
    have : wid 0 = 1 := rfl
    omega
theorem num_len (K : Carr gc lbc I Ok len R step val) (kd : Nat) (hk : kd < 4) (la lb : Int) : ∀ (os : List Nat) (s : σ) (cs : Array Value) (m : Bool), len (numRun step val kd la lb os s cs m).2.1 = len s + wid kd * os.length
  | [], s, cs, m => rfl
  | o :: os, s, cs, m => by
    rw [numRun_cons, num_len K kd hk la lb os, K.size kd s _ hk, List.length_cons, Nat.mul_add, Nat.mul_one]
    omega
theorem run_len (K : Carr gc lbc I Ok len R step val) {is bs : List Nat} {cs : Array Value} {s : σ} {d : FD} (hk : fdOk is bs d) : len (fdRun step val s cs d).2.1 ≤ len s + fdLen d := by
  cases d with
  | nums kd la lb os => exact Nat.le_of_eq (num_len K kd hk.1 la lb os s cs true)
  | just kd x => exact Nat.le_of_eq (K.size kd s x hk)
  | free n => exact Nat.le_of_eq (free_len K n s)
  | eith kd no yes o => exact Nat.le_of_eq (K.size kd s _ hk.1)
  | cond o n =>
    show len (if boolAt cs o then freeRun step n s else s) ≤ len s + n
    split
    · exact Nat.le_of_eq (free_len K n s)
    · omega

/-- A field was carried. -/
def RanP (I : σ → World → Prop) (w : World) (X : Nat) (T : TypeId) (own : List Nat) (r : Bool × σ × Array Value) (e : Ending) (w' : World) : Prop :=
  e = .returned (.bool r.1) ∧ I r.2.1 w' ∧ Blk w' X T r.2.2 ∧ KeepsP w w' (fun b => b = X ∨ b ∈ own)
theorem Ran.p {w w' : World} {X : Nat} {T : TypeId} {own : List Nat} {r : Bool × σ × Array Value} {e : Ending} (h : Ran I w X T r e w') : RanP I w X T own r e w' := ⟨h.1, h.2.1, h.2.2.1, h.2.2.2.p (.inl rfl)⟩

end

end Go.Proofs.Ytekailhghjideaa

namespace Go.Proofs.Ytekailhghjideaa
open Go Go.RowKit

section
variable {σ : Type} {gc : FuncId} {lbc : Array Value} {I : σ → World → Prop} {Ok : Nat → Prop} {len : σ → Nat} {R : Nat} {step : Nat → σ → Int → σ} {val : Nat → σ → Int → Int}

def runAll (step : Nat → σ → Int → σ) (val : Nat → σ → Int → Int) : List FD → σ → Array Value → Bool × σ × Array Value
  | [], s, cs => (true, s, cs)
  | d :: ds, s, cs =>
    if (fdRun step val s cs d).1 then runAll step val ds (fdRun step val s cs d).2.1 (fdRun step val s cs d).2.2 else (false, (fdRun step val s cs d).2.1, (fdRun step val s cs d).2.2)
def lenAll : List FD → Nat
  | [] => 0
  | d :: ds => fdLen d + lenAll ds
theorem runAll_nil (s : σ) (cs : Array Value) : runAll step val [] s cs = (true, s, cs) := rfl
theorem runAll_cons (d : FD) (ds : List FD) (s : σ) (cs : Array Value) : runAll step val (d :: ds) s cs = if (fdRun step val s cs d).1 then runAll step val ds (fdRun step val s cs d).2.1 (fdRun step val s cs d).2.2 else (false, (fdRun step val s cs d).2.1, (fdRun step val s cs d).2.2) := rfl
/-- All were carried. -/
def RanAll (I : σ → World → Prop) (w : World) (X : Nat) (T : TypeId) (P : Nat → Prop) (r : Bool × σ × Array Value) (e : Ending) (w' : World) : Prop :=
  e = .returned (.bool r.1) ∧ I r.2.1 w' ∧ Blk w' X T r.2.2 ∧ KeepsP w w' P

end

end Go.Proofs.Ytekailhghjideaa

namespace Go.Proofs.Ytekailhghjideaa
open Go Go.RowKit

theorem Blk.al {w : World} {p : Nat} {T : TypeId} {cs : Array Value} (h : Blk w p T cs) (o : Obj) : Blk (w.alloc o) p T cs := h.below ((Below.refl _ _).alloc (Nat.le_refl _) o)
theorem Blk.at {w : World} {p : Nat} {T : TypeId} {cs : Array Value} (h : p = w.heap.size) : Blk (w.alloc (.cells cs T)) p T cs := h ▸ Blk.new w T cs
theorem below_al {w w1 : World} (h : Below w.heap.size w w1) (o : Obj) : Below w.heap.size w (w1.alloc o) := h.alloc h.size o
theorem al_size (w : World) (o : Obj) : (w.alloc o).heap.size = w.heap.size + 1 := by simp

end Go.Proofs.Ytekailhghjideaa

namespace Go.Proofs.Ytekailhghjideaa
open Go Go.RowKit

theorem step_val {ops : Array Oper} {o : Oper} {a : Act} {w w1 : World} {v : Value} {K : Value → World → Prop} (hg : o.guard = none) (h : (execOp a.eval o).run Try.prog w = .ok (.value v) w1) (hK : K v w1) : StepO Try.prog ops o a w K :=
  ⟨by unfold Region.wanted; rw [hg], .inl ⟨v, w1, h, hK⟩⟩
theorem step_call {ops : Array Oper} {o : Oper} {a : Act} {w : World} {f : FuncId} {args : Array Value} {K : Value → World → Prop} (hg : o.guard = none) (h : (execOp a.eval o).run Try.prog w = .ok (.enter f args) w) (hC : Calls Try.prog f args w fun e w' => ∃ v, e = .returned v ∧ K v w') : StepO Try.prog ops o a w K :=
  ⟨by unfold Region.wanted; rw [hg], .inr (.inl ⟨f, args, w, h, hC⟩)⟩
theorem eval_tmp {a : Act} {t : Nat} {v : Value} (h : a.tmps[t]? = some v) : a.eval (.tmp t) = v := by
  simp [Act.eval, h]
theorem run_move (ev : Operand → Value) (o : Oper) (x : Operand) (w : World) (h : o.op = .move x) : (execOp ev o).run Try.prog w = .ok (.value (ev x)) w := by
  unfold execOp
  simp only [h]
  rfl
theorem run_assign (ev : Operand → Value) (o : Oper) (x : Operand) (w : World) (h : o.op = .assign x) : (execOp ev o).run Try.prog w = .ok (.value (ev x)) w := by
  unfold execOp
  simp only [h]
  rfl
theorem run_nilCheck (ev : Operand → Value) (o : Oper) (x : Operand) (w : World) (p : Addr) (h : o.op = .nilCheck x) (hx : ev x = .pointer (some p)) : (execOp ev o).run Try.prog w = .ok (.value (.pointer (some p))) w := by
  unfold execOp
  simp only [h, hx]
  rfl
theorem run_field (ev : Operand → Value) (o : Oper) (s : TypeId) (x : Operand) (f : Nat) (v u : Value) (w : World) (h : o.op = .fieldAddr s x f) (hx : ev x = v) (hf : (Instr.fieldAt s v f).run Try.prog w = .ok u w) : (execOp ev o).run Try.prog w = .ok (.value u) w := by
  unfold execOp
  simp only [h, hx, Sem.run_bind, hf]
  rfl
theorem run_slice (ev : Operand → Value) (o : Oper) (t : TypeId) (n : Nat) (parts : Array (Nat × Operand)) (ps : Array (Nat × Value)) (u : Value) (w w1 : World) (h : o.op = .buildSlice t n parts) (hp : (parts.map fun (i, x) => (i, ev x)) = ps) (hf : (Instr.buildSlice t n ps).run Try.prog w = .ok u w1) : (execOp ev o).run Try.prog w = .ok (.value u) w1 := by
  unfold execOp
  simp only [h, hp, Sem.run_bind, hf]
  rfl
theorem run_call (a : Act) (o : Oper) (f : FuncId) (args : Array Operand) (tys : Array TypeId) (vals : Array Value) (w : World) (h : o.op = .call { callee := .value (.func f), args := args, argTypes := tys }) (hx : args.map a.eval = vals) (hf : (callFunc f vals).run Try.prog w = .ok (.enter f vals) w) : (execOp a.eval o).run Try.prog w = .ok (.enter f vals) w := by
  unfold execOp
  simp only [h, hx, resolve, invoke, Sem.run_bind]
  simp only [Act.eval]
  first | (simp [Deferred.ofValue, hf]; done) | (simp only [Deferred.ofValue, Sem.run_pure, Result.andThen_ok, Array.append_empty, Array.empty_append]; exact hf)
end Go.Proofs.Ytekailhghjideaa

namespace Go.Proofs.Ytekailhghjideaa
open Go Go.RowKit

inductive Bk where
  | ptr (o : Nat)
  | row (os : List Nat)
  | fld (d : FD)
  | top (ks : List Nat)
  | last (k : Nat)
/-- What an entry speaks of. -/
def Bk.refs : Bk → List Nat
  | .top ks => ks
  | .last k => [k]
  | _ => []
def gDst : Nat → Nat
  | 0 => 3
  | 1 => 4
  | 2 => 5
  | 3 => 6
  | 4 => 7
  | 5 => 8
  | 6 => 9
  | 7 => 10
  | 8 => 11
  | 9 => 12
  | 10 => 13
  | 11 => 14
  | 12 => 15
  | 13 => 16
  | 14 => 17
  | 15 => 2
  | _ => 0
def gDep : Nat → List Nat
  | 1 => [0]
  | 2 => [1]
  | 3 => [2]
  | 5 => [4]
  | 6 => [5]
  | 7 => [6]
  | 8 => [7]
  | 10 => [9]
  | 11 => [10]
  | 13 => [11, 12]
  | 14 => [3, 8, 13]
  | 15 => [14]
  | _ => []
def gBook : Nat → Bk
  | 0 => .ptr 0
  | 1 => .ptr 0
  | 2 => .ptr 1
  | 3 => .fld (.eith 3 20480 65536 1)
  | 4 => .ptr 0
  | 5 => .ptr 0
  | 6 => .ptr 0
  | 7 => .row [0]
  | 8 => .fld (.nums 1 1 65535 [0])
  | 9 => .ptr 0
  | 10 => .ptr 0
  | 11 => .ptr 1
  | 12 => .fld (.free 26)
  | 13 => .fld (.cond 1 26)
  | 14 => .top [3, 8, 13]
  | 15 => .last 14
  | _ => .ptr 0
def gEats (j k : Nat) : Bool := (j == 8 && k == 7) || (j == 13 && k == 12)

end Go.Proofs.Ytekailhghjideaa

namespace Go.Proofs.Ytekailhghjideaa
open Go Go.RowKit

def lDst : Nat → Nat
  | 0 => 3
  | 1 => 4
  | 2 => 5
  | 3 => 6
  | 4 => 7
  | 5 => 8
  | 6 => 9
  | 7 => 10
  | 8 => 11
  | 9 => 12
  | 10 => 13
  | 11 => 14
  | 12 => 15
  | 13 => 16
  | 14 => 17
  | 15 => 18
  | 16 => 19
  | 17 => 20
  | 18 => 21
  | 19 => 22
  | 20 => 23
  | 21 => 2
  | _ => 0
def lDep : Nat → List Nat
  | 3 => [2]
  | 4 => [3]
  | 6 => [5]
  | 7 => [6]
  | 9 => [8]
  | 10 => [9]
  | 11 => [4, 7, 10]
  | 12 => [11]
  | 16 => [15]
  | 17 => [16]
  | 18 => [17]
  | 19 => [18]
  | 20 => [0, 1, 12, 13, 14, 19]
  | 21 => [20]
  | _ => []
def lBook : Nat → Bk
  | 0 => .fld (.just 1 1)
  | 1 => .fld (.just 1 0)
  | 2 => .ptr 0
  | 3 => .ptr 0
  | 4 => .ptr 0
  | 5 => .ptr 0
  | 6 => .ptr 0
  | 7 => .ptr 1
  | 8 => .ptr 0
  | 9 => .ptr 0
  | 10 => .ptr 2
  | 11 => .row [0, 1, 2]
  | 12 => .fld (.nums 2 (-32768) 32767 [0, 1, 2])
  | 13 => .fld (.free 22)
  | 14 => .fld (.just 1 0)
  | 15 => .ptr 0
  | 16 => .ptr 0
  | 17 => .ptr 3
  | 18 => .row [3]
  | 19 => .fld (.nums 1 1 65535 [3])
  | 20 => .top [0, 1, 12, 13, 14, 19]
  | 21 => .last 20
  | _ => .ptr 0
def lEats (j k : Nat) : Bool := (j == 12 && k == 11) || (j == 19 && k == 18)

end Go.Proofs.Ytekailhghjideaa

namespace Go.Proofs.Ytekailhghjideaa
open Go Go.RowKit

def hDst : Nat → Nat
  | 0 => 3
  | 1 => 4
  | 2 => 5
  | 3 => 6
  | 4 => 7
  | 5 => 8
  | 6 => 9
  | 7 => 10
  | 8 => 11
  | 9 => 12
  | 10 => 13
  | 11 => 14
  | 12 => 15
  | 13 => 16
  | 14 => 17
  | 15 => 18
  | 16 => 19
  | 17 => 20
  | 18 => 21
  | 19 => 22
  | 20 => 23
  | 21 => 24
  | 22 => 25
  | 23 => 26
  | 24 => 27
  | 25 => 28
  | 26 => 29
  | 27 => 30
  | 28 => 31
  | 29 => 32
  | 30 => 33
  | 31 => 34
  | 32 => 35
  | 33 => 36
  | 34 => 37
  | 35 => 38
  | 36 => 39
  | 37 => 40
  | 38 => 41
  | 39 => 42
  | 40 => 43
  | 41 => 44
  | 42 => 45
  | 43 => 46
  | 44 => 47
  | 45 => 48
  | 46 => 49
  | 47 => 50
  | 48 => 2
  | _ => 0
def hDep : Nat → List Nat
  | 5 => [4]
  | 6 => [5]
  | 7 => [6]
  | 8 => [7]
  | 10 => [9]
  | 11 => [10]
  | 12 => [11]
  | 13 => [12]
  | 16 => [15]
  | 17 => [16]
  | 18 => [17]
  | 20 => [19]
  | 21 => [20]
  | 22 => [21]
  | 24 => [23]
  | 25 => [24]
  | 26 => [25]
  | 28 => [27]
  | 29 => [28]
  | 30 => [29]
  | 31 => [18, 22, 26, 30]
  | 32 => [31]
  | 34 => [33]
  | 35 => [34]
  | 37 => [36]
  | 38 => [37]
  | 39 => [35, 38]
  | 40 => [39]
  | 43 => [42]
  | 44 => [43]
  | 45 => [44]
  | 47 => [0, 1, 2, 3, 8, 13, 14, 32, 40, 41, 45, 46]
  | 48 => [47]
  | _ => []
def hBook : Nat → Bk
  | 0 => .fld (.just 1 1)
  | 1 => .fld (.just 1 0)
  | 2 => .fld (.free 8)
  | 3 => .fld (.just 3 1594834165)
  | 4 => .ptr 0
  | 5 => .ptr 0
  | 6 => .ptr 1
  | 7 => .row [1]
  | 8 => .fld (.nums 1 0 65535 [1])
  | 9 => .ptr 0
  | 10 => .ptr 0
  | 11 => .ptr 0
  | 12 => .row [0]
  | 13 => .fld (.nums 1 16 16384 [0])
  | 14 => .fld (.free 16)
  | 15 => .ptr 0
  | 16 => .ptr 0
  | 17 => .ptr 2
  | 18 => .ptr 2
  | 19 => .ptr 0
  | 20 => .ptr 0
  | 21 => .ptr 2
  | 22 => .ptr 3
  | 23 => .ptr 0
  | 24 => .ptr 0
  | 25 => .ptr 2
  | 26 => .ptr 4
  | 27 => .ptr 0
  | 28 => .ptr 0
  | 29 => .ptr 2
  | 30 => .ptr 5
  | 31 => .row [2, 3, 4, 5]
  | 32 => .fld (.nums 2 (-32768) 32767 [2, 3, 4, 5])
  | 33 => .ptr 0
  | 34 => .ptr 0
  | 35 => .ptr 6
  | 36 => .ptr 0
  | 37 => .ptr 0
  | 38 => .ptr 7
  | 39 => .row [6, 7]
  | 40 => .fld (.nums 1 0 65535 [6, 7])
  | 41 => .fld (.free 2)
  | 42 => .ptr 0
  | 43 => .ptr 0
  | 44 => .ptr 8
  | 45 => .fld (.eith 1 0 1 8)
  | 46 => .fld (.just 1 0)
  | 47 => .top [0, 1, 2, 3, 8, 13, 14, 32, 40, 41, 45, 46]
  | 48 => .last 47
  | _ => .ptr 0
def hEats (j k : Nat) : Bool := (j == 8 && k == 7) || (j == 13 && k == 12) || (j == 32 && k == 31) || (j == 40 && k == 39)

end Go.Proofs.Ytekailhghjideaa

namespace Go.Proofs.Ytekailhghjideaa
open Go Go.RowKit

theorem rs_done {q : Nat → Prop} (p : Nat) (bs : List Value) (k : Nat) (w : World) (h : RS q w p bs k) : Calls Try.prog 49 #[.pointer (some ⟨p, 0, none⟩)] w fun e w' => e = .returned (.int .i64 (if k ≤ bs.length then 0 else 30)) ∧ w = w' := by
  rcases h with ⟨h1, A, c, hb, _⟩ | ⟨h1, i, A, c, hb, _⟩
  · rw [if_pos h1]
    exact rdone_low p bs.length c k A false w hb
  · rw [if_neg (by omega)]
    exact rdone_low p bs.length c i A true w hb

theorem numRun_size {σ : Type} (step : Nat → σ → Int → σ) (val : Nat → σ → Int → Int) (kd : Nat) (la lb : Int) : ∀ (os : List Nat) (s : σ) (cs : Array Value) (m : Bool), (numRun step val kd la lb os s cs m).2.2.size = cs.size
  | [], _, _, _ => rfl
  | o :: os, s, cs, m => by rw [numRun_cons, numRun_size step val kd la lb os, Array.size_setIfInBounds]
theorem fdRun_size {σ : Type} (step : Nat → σ → Int → σ) (val : Nat → σ → Int → Int) (s : σ) (cs : Array Value) (d : FD) : (fdRun step val s cs d).2.2.size = cs.size := by
  cases d with
  | nums kd la lb os => exact numRun_size step val kd la lb os s cs true
  | just kd x => rfl
  | free n => rfl
  | eith kd no yes o => exact Array.size_setIfInBounds
  | cond o n => rfl
theorem runAll_size {σ : Type} (step : Nat → σ → Int → σ) (val : Nat → σ → Int → Int) : ∀ (ds : List FD) (s : σ) (cs : Array Value), (runAll step val ds s cs).2.2.size = cs.size
  | [], _, _ => rfl
  | d :: ds, s, cs => by
    rw [runAll_cons]
    split
    · rw [runAll_size step val ds, fdRun_size]
    · exact fdRun_size step val s cs d
theorem bools_one {l : List Value} (h : l.all (·.oneCell') = true) : ∀ v ∈ l, v.oneCell' = true := fun v hv => List.all_eq_true.1 h v hv
theorem set_one {cs : Array Value} (h : cs.all (·.oneCell') = true) (o : Nat) {v : Value} (hv : v.oneCell' = true) : (cs.setIfInBounds o v).all (·.oneCell') = true := by
  rw [Array.all_eq_true_iff_forall_mem] at h ⊢
  intro x hx
  rcases Array.mem_or_eq_of_mem_setIfInBounds hx with h1 | rfl
  · exact h x h1
  · exact hv
theorem numRun_one {σ : Type} (step : Nat → σ → Int → σ) (val : Nat → σ → Int → Int) (kd : Nat) (la lb : Int) : ∀ (os : List Nat) (s : σ) (cs : Array Value) (m : Bool), cs.all (·.oneCell') = true → (numRun step val kd la lb os s cs m).2.2.all (·.oneCell') = true
  | [], _, _, _, h => h
  | o :: os, s, cs, m, h => by rw [numRun_cons]; exact numRun_one step val kd la lb os _ _ _ (set_one h o rfl)
theorem fdRun_one {σ : Type} (step : Nat → σ → Int → σ) (val : Nat → σ → Int → Int) (s : σ) (cs : Array Value) (d : FD) (h : cs.all (·.oneCell') = true) : (fdRun step val s cs d).2.2.all (·.oneCell') = true := by
  cases d with
  | nums kd la lb os => exact numRun_one step val kd la lb os s cs true h
  | just kd x => exact h
  | free n => exact h
  | eith kd no yes o => exact set_one h o rfl
  | cond o n => exact h
theorem runAll_one {σ : Type} (step : Nat → σ → Int → σ) (val : Nat → σ → Int → Int) : ∀ (ds : List FD) (s : σ) (cs : Array Value), cs.all (·.oneCell') = true → (runAll step val ds s cs).2.2.all (·.oneCell') = true
  | [], _, _, h => h
  | d :: ds, s, cs, h => by
    rw [runAll_cons]
    split
    · exact runAll_one step val ds _ _ (fdRun_one step val s cs d h)
    · exact fdRun_one step val s cs d h
theorem Blk.row {w : World} {p : Nat} {T : TypeId} {cs : Array Value} (h : Blk w p T cs) (cs1 : Array Value) : Blk (w.setRow p cs1) p T cs1 := setRow_heap w p cs cs1 T (0, 0) h

/-- The reader behind from, and that what was there before stays. -/
def IFrom2 (w0 : World) (q : Nat → Prop) (r p : Nat) (bs : List Value) (k : Nat) (w : World) : Prop := IFrom q r p bs k w ∧ Below w0.heap.size w0 w
/-- What fields come to out of bytes, and into bytes. -/
def rdRun (bs : List Value) (ds : List FD) (cs : Array Value) : Bool × Nat × Array Value := runAll (fun kd k _ => k + wid kd) (fun kd k _ => rdk bs kd k) ds 0 cs
def wrRun (ds : List FD) (cs : Array Value) : Bool × List Value × Array Value := runAll (fun kd L x => L ++ bek kd x) (fun _ _ x => x) ds [] cs
theorem shRunAll {σ : Type} {step : Nat → σ → Int → σ} {val : Nat → σ → Int → Int} {is bs : List Nat} (hd : ∀ o ∈ is, o ∉ bs) : ∀ (ds : List FD) (s : σ) (cs : Array Value), (∀ d ∈ ds, fdOk is bs d) → Sh is bs cs → Sh is bs (runAll step val ds s cs).2.2
  | [], s, cs, _, h => h
  | d :: ds, s, cs, hk, h => by
    have h1 := h.run (step := step) (val := val) (s := s) hd (hk d (by simp))
    rw [runAll_cons]
    split
    · exact shRunAll hd ds _ _ (fun x hx => hk x (by simp [hx])) h1
    · exact h1
/-- A table was read. -/
def GotR (w : World) (mk : Array Value → Value) (cs0 : Array Value) (err : Int) (r : Bool × Nat × Array Value) (n : Nat) (e : Ending) (w' : World) : Prop :=
  e = .returned (.tuple #[if r.1 && decide (r.2.1 ≤ n) then mk r.2.2 else mk cs0, .int .i64 (if r.1 && decide (r.2.1 ≤ n) then 0 else err)]) ∧ Below w.heap.size w w'

def mkG (cs : Array Value) : Value := .agg cs
def dsG : List FD := [.eith 3 20480 65536 1, .nums 1 1 65535 [0], .cond 1 26]
def zG : Array Value := #[.int .i64 0, .bool false]

def mkL (cs : Array Value) : Value := .agg cs
def dsL : List FD := [.just 1 1, .just 1 0, .nums 2 (-32768) 32767 [0, 1, 2], .free 22, .just 1 0, .nums 1 1 65535 [3]]
def zL : Array Value := #[.int .i64 0, .int .i64 0, .int .i64 0, .int .i64 0]

def mkH (cs : Array Value) : Value := .agg cs
def dsH : List FD := [.just 1 1, .just 1 0, .free 8, .just 3 1594834165, .nums 1 0 65535 [1], .nums 1 16 16384 [0], .free 16, .nums 2 (-32768) 32767 [2, 3, 4, 5], .nums 1 0 65535 [6, 7], .free 2, .eith 1 0 1 8, .just 1 0]
def zH : Array Value := #[.int .i64 0, .int .i64 0, .int .i64 0, .int .i64 0, .int .i64 0, .int .i64 0, .int .i64 0, .int .i64 0, .bool false]

end Go.Proofs.Ytekailhghjideaa
