/- Part 10 of the proof: LrT, LrV, LrW, LrX, LrY. -/
import Derived.Test.YtaaboochologaaaM8LruDoes

namespace Go.Proofs.Ytaaboochologaaa
open Go Go.ChangeShapes Go.WideShapes Go.ChangeAt Go.RowKit
set_option linter.unusedVariables false
set_option linter.unusedSimpArgs false
/-- A call, as it lies. -/
structure LRec where
  kd : Int
  k : Ky
  a : Q
  am : Option Addr
  mc : Nat
  m : List Value
  n : Int
def lrL (r : LRec) : List Value := [.int .i64 r.kd, .int .i64 r.k.1, .int .i64 r.k.2.1, .int .i64 r.k.2.2.1, .int .i64 r.k.2.2.2, .int .i64 r.a.x0, .int .i64 r.a.y0, .int .i64 r.a.x1, .int .i64 r.a.y1, .slice r.am r.m.length r.mc, .int .i64 r.n]
theorem lrLen (r : LRec) : (lrL r).length = 11 := rfl
theorem cellsLC : Try.prog.cellsOf 41 = 11 := by kernel_rfl
/-- What lies behind a call's slice; its key's numbers. -/
def LrOk (w : World) (B : Nat) (r : LRec) : Prop := Lists w B r.am r.m ∧ Bytes8 r.m ∧ r.m.length ≤ r.mc ∧ r.mc ≤ 9223372036854775807 ∧ kyW r.k
theorem wf_in64 {x : Int} (h : (Lit.int .i64 x).wf = true) : in64 x := by
  simp [Lit.wf, IntKind.min, IntKind.max] at h
  simp [IntKind.signed, IntKind.bits] at h
  unfold in64
  omega
section
variable {H : Type} {enc : TypeId × Value → H}
set_option maxRecDepth 100000 in
theorem open_key4 {w : World} {base fuel : Nat} {spare : Nat → Bool} {held : Bool} {c0 c1 c2 c3 : Value} {x : DataW H × List MemPlace}
    (h : DataW.trod enc Try.prog w base spare held fuel 39 [c0, c1, c2, c3] = some x) : ∃ k : Ky, c0 = .int .i64 k.1 ∧ c1 = .int .i64 k.2.1 ∧ c2 = .int .i64 k.2.2.1 ∧ c3 = .int .i64 k.2.2.2 ∧ kyW k := by
  obtain ⟨zs, m, _, _, _, hlen2, hb⟩ := DataW.trod_struct Try.underlying39 h
  match zs, hlen2 with
  | [z0, z1, z2, z3], _ =>
    have k0 := hb 0 _ rfl
    have k1 := hb 1 _ rfl
    have k2 := hb 2 _ rfl
    have k3 := hb 3 _ rfl
    simp [cellsICn] at k0 k1 k2 k3
    obtain ⟨a0, e0, _, f0⟩ := DataW.trod_int Try.underlying3 k0
    obtain ⟨a1, e1, _, f1⟩ := DataW.trod_int Try.underlying3 k1
    obtain ⟨a2, e2, _, f2⟩ := DataW.trod_int Try.underlying3 k2
    obtain ⟨a3, e3, _, f3⟩ := DataW.trod_int Try.underlying3 k3
    simp at e0 e1 e2 e3
    exact ⟨(a0, a1, a2, a3), e0, e1, e2, e3, wf_in64 f0, wf_in64 f1, wf_in64 f2, wf_in64 f3⟩
set_option maxRecDepth 100000 in
theorem open_lrow {w : World} {base fuel : Nat} {spare : Nat → Bool} {held : Bool} {cs : List Value} {z : DataW H × List MemPlace} (hl : cs.length = 11)
    (hf : DataW.trod enc Try.prog w base spare held fuel 41 cs = some z) : ∃ r : LRec, cs = lrL r ∧ LrOk w w.heap.size r := by
  match cs, hl with
  | [c0, c1, c2, c3, c4, c5, c6, c7, c8, c9, c10], _ =>
    obtain ⟨ys, n, _, _, _, hlen, hg⟩ := DataW.trod_struct Try.underlying41 hf
    match ys, hlen with
    | [y0, y1, y2, y3], _ =>
      have g0 := hg 0 _ rfl
      have g1 := hg 1 _ rfl
      have g2 := hg 2 _ rfl
      have g3 := hg 3 _ rfl
      simp [cellsICn, ky_cells, cellsMCn] at g0 g1 g2 g3
      obtain ⟨kd, e0, _⟩ := DataW.trod_int Try.underlying3 g0
      obtain ⟨k, e1, e2, e3, e4, hk⟩ := open_key4 g1
      obtain ⟨A, Am, mc, E, e5, e6, e7, e8, e9, h1, h2, h3, h4⟩ := open_maskCn g2
      obtain ⟨n, e10, _⟩ := DataW.trod_int Try.underlying3 g3
      simp at e0 e10
      subst e0 e1 e2 e3 e4 e5 e6 e7 e8 e9 e10
      exact ⟨⟨kd, k, A, Am, mc, E, n⟩, rfl, h3, h4, h1, h2, hk⟩
set_option maxRecDepth 100000 in
theorem open_lcall {w : World} {base : Nat} {spare : Nat → Bool} {held : Bool} {r : Reach} {b0 : Nat} {v : Value} {d : DataW H} {p : List MemPlace}
    (hv : Value.okWide Try.prog w r b0 41 v) (h : DataW.Trod enc Try.prog w base spare held 41 v d p) : ∃ r : LRec, v = .agg #[.int .i64 r.kd, .int .i64 r.k.1, .int .i64 r.k.2.1, .int .i64 r.k.2.2.1, .int .i64 r.k.2.2.2, .int .i64 r.a.x0, .int .i64 r.a.y0, .int .i64 r.a.x1, .int .i64 r.a.y1, .slice r.am r.m.length r.mc, .int .i64 r.n] ∧ LrOk w w.heap.size r := by
  obtain ⟨cs, rfl, hsz⟩ := okWide_struct Try.underlying41 hv
  obtain ⟨fuel, hf⟩ := h
  obtain ⟨r, hr, hok⟩ := open_lrow (cs := cs.toList) (by rw [Array.length_toList]; exact hsz.trans cellsLC) (by simpa [Value.cells] using hf)
  refine ⟨r, ?_, hok⟩
  have : cs = (lrL r).toArray := by rw [← hr]
  rw [this]; rfl
set_option maxRecDepth 100000 in
theorem open_lkey {w : World} {base : Nat} {spare : Nat → Bool} {held : Bool} {r : Reach} {b0 : Nat} {v : Value} {d : DataW H} {p : List MemPlace}
    (hv : Value.okWide Try.prog w r b0 39 v) (h : DataW.Trod enc Try.prog w base spare held 39 v d p) : ∃ k : Ky, v = .agg #[.int .i64 k.1, .int .i64 k.2.1, .int .i64 k.2.2.1, .int .i64 k.2.2.2] ∧ kyW k := by
  obtain ⟨⟨cs⟩, rfl, hsz⟩ := okWide_struct Try.underlying39 hv
  obtain ⟨fuel, hf⟩ := h
  have hl := hsz.trans ky_cells
  match cs, hl with
  | [c0, c1, c2, c3], _ =>
    obtain ⟨k, rfl, rfl, rfl, rfl, hk⟩ := open_key4 (c0 := c0) (c1 := c1) (c2 := c2) (c3 := c3) (by simpa [Value.cells] using hf)
    exact ⟨k, rfl, hk⟩
set_option maxRecDepth 100000 in
theorem open_lcalls {w : World} {base : Nat} {spare : Nat → Bool} {held : Bool} {r : Reach} {b0 : Nat} {v : Value} {d : DataW H} {p : List MemPlace}
    (hv : Value.okWide Try.prog w r b0 22 v) (h : DataW.Trod enc Try.prog w base spare held 22 v d p) :
    ∃ (A : Option Addr) (c : Nat) (L : List LRec), v = .slice A L.length c ∧ L.length ≤ c ∧ c ≤ 9223372036854775807 ∧ Lists w w.heap.size A (L.flatMap lrL) ∧ ∀ r ∈ L, LrOk w w.heap.size r := by
  obtain ⟨a0, len, cap, rfl⟩ := okWide_slice Try.underlying22 hv
  obtain ⟨fuel, hf⟩ := h
  rcases Deep.open_slice Try.underlying22 hf with ⟨hcs, _⟩ | ⟨a, len', cap', m, n, D, Pl, hcs, hb, hl, hm, hmm, hx, hi⟩
  · simp [Value.cells] at hcs
    obtain ⟨rfl, rfl, rfl⟩ := hcs
    exact ⟨none, 0, [], rfl, Nat.le_refl _, Nat.zero_le _, Lists.empty _ _ _, fun r hr => by simp at hr⟩
  · simp [Value.cells] at hcs
    obtain ⟨rfl, rfl, rfl⟩ := hcs
    unfold maxLen at hm
    have hlm : len ≤ m := by split at hmm <;> omega
    obtain ⟨L, hLl, hL⟩ := choose_list (n := len) (p := fun i (q : LRec) => (∀ j, j < 11 → w.cell? (a.add (i * 11 + j)) = (lrL q)[j]?) ∧ LrOk w w.heap.size q) fun i hil => by
      obtain ⟨cs', hc, ht'⟩ := hi i (by omega)
      rw [cellsLC] at hc
      obtain ⟨_, hcl, hat⟩ := World.cells?_some hc
      obtain ⟨q, rfl, hq⟩ := open_lrow hcl ht'
      exact ⟨q, fun j hj => by have := hat j hj; rw [Go.Deep.add_add] at this; exact this, hq⟩
    have hcell : ∀ j u, (L.flatMap lrL)[j]? = some u → w.cell? (a.add j) = some u := fun j u hu => by
      have hj : j < L.length * 11 := by
        rcases Nat.lt_or_ge j (L.length * 11) with h | h
        · exact h
        · rw [List.getElem?_eq_none (by rw [flat_len lrLen]; exact h)] at hu; cases hu
      obtain ⟨q, hq⟩ : ∃ q, L[j / 11]? = some q := ⟨L[j / 11]'(by omega), List.getElem?_eq_getElem _⟩
      have h3 := (hL _ _ hq).1 (j % 11) (by omega)
      have h4 : (lrL q)[j % 11]? = some ((lrL q)[j % 11]'(by rw [lrLen]; omega)) := List.getElem?_eq_getElem _
      have h5 := flat_at lrLen L (j / 11) q hq (j % 11) _ h4
      rw [show j / 11 * 11 + j % 11 = j by omega] at h3 h5
      rw [h3, h4, ← h5, hu]
    refine ⟨some a, cap, L, by rw [hLl], by omega, hm, ⟨fun ha => (nomatch ha), fun a' ha => ?_, fun a' ha hne => ?_⟩, fun r hr => ?_⟩
    · cases ha; exact hcell
    · cases ha
      have h0 : 0 < (L.flatMap lrL).length := by
        rcases Nat.eq_zero_or_pos (L.flatMap lrL).length with h | h
        · exact absurd (List.eq_nil_of_length_eq_zero h) hne
        · exact h
      have := cell_lt (hcell 0 _ (List.getElem?_eq_getElem h0))
      rwa [addr_add_block] at this
    · obtain ⟨i, hi⟩ := List.mem_iff_getElem?.1 hr
      exact (hL i r hi).2
end
end Go.Proofs.Ytaaboochologaaa

namespace Go.Proofs.Ytaaboochologaaa
open Go Go.RowKit
set_option linter.unusedVariables false
set_option linter.unusedSimpArgs false

theorem rlmay_any (x : Int) (w : World) : Calls Try.prog 10 #[.int .i64 x] w fun e w' => e = .returned (.bool (inZ 0 16777216 x)) ∧ w = w' := by
  unfold inZ
  by_cases h1 : 0 ≤ x
  · by_cases h2 : x ≤ 16777216
    · have d1 : decide (0 ≤ x) = true := by simpa using h1
      have d2 : decide (x ≤ 16777216) = true := by simpa using h2
      rw [d1, d2]
      go_enter Try.func10, Try.ntmps10
      go_wp2
      go_ret
      exact ⟨rfl, rfl⟩
    · have d1 : decide (0 ≤ x) = true := by simpa using h1
      have d2 : decide (x ≤ 16777216) = false := by simpa using h2
      rw [d1, d2]
      go_enter Try.func10, Try.ntmps10
      go_wp2
      go_ret
      exact ⟨rfl, rfl⟩
  · have d1 : decide (0 ≤ x) = false := by simpa using h1
    rw [d1]
    go_enter Try.func10, Try.ntmps10
    go_wp2
    go_ret
    exact ⟨rfl, rfl⟩
set_option maxRecDepth 100000 in
theorem rlcost_any (A : Q) (Am : Option Addr) (n c : Nat) (hn : n ≤ 4611686018427387904) (w : World) : Calls Try.prog 17 #[.agg #[.int .i64 A.x0, .int .i64 A.y0, .int .i64 A.x1, .int .i64 A.y1, .slice Am n c]] w fun e w' => e = .returned (.int .i64 (64 + (n : Int))) ∧ Below w.heap.size w w' := by
  have B : Below w.heap.size w (w.alloc (.cells #[.int .i64 A.x0, .int .i64 A.y0, .int .i64 A.x1, .int .i64 A.y1, .slice Am n c] 37)) := below_a1 _ _
  have K := Blk.new w 37 #[.int .i64 A.x0, .int .i64 A.y0, .int .i64 A.x1, .int .i64 A.y1, .slice Am n c]
  have k0 := K.cell 0; have k1 := K.cell 1; have k2 := K.cell 2; have k3 := K.cell 3; have k4 := K.cell 4; have kl := K.lt; simp only [List.getElem?_toArray, List.getElem?_cons_succ, List.getElem?_cons_zero] at k0 k1 k2 k3 k4
  have hw : wrap64 (64 + (n : Int)) = 64 + (n : Int) := by unfold wrap64; omega
  go_enter Try.func17, Try.ntmps17
  go_wp2
  go_ret
  exact ⟨rfl, B⟩
/-- A mask that was handed in is put. -/
theorem stput_low (N p : Nat) (w0 w : World) (bud : Int) (L : List En) (C : Cs) (r : LRec) (ok : LrOk w0 N r) (hN : N = w0.heap.size) (h : StC N w0 w p bud L C) :
    Calls Try.prog 16 #[.pointer (some ⟨p, 0, none⟩), .agg #[.int .i64 r.k.1, .int .i64 r.k.2.1, .int .i64 r.k.2.2.1, .int .i64 r.k.2.2.2], .agg #[.int .i64 r.a.x0, .int .i64 r.a.y0, .int .i64 r.a.x1, .int .i64 r.a.y1, .slice r.am r.m.length r.mc]] w fun e w' => ∃ C', e = .returned (.tuple #[.bool (lputB bud r.a r.m.length), .int .i64 (chkC r.a r.m.length)]) ∧ StC N w0 w' p bud (lputL bud L r.k r.a r.m.length r.m) C' ∧ ModC w w' p C C' := by
  obtain ⟨hl, h8, hm, hc, hk⟩ := ok
  have hb := h.2.1
  have hls : Lists w w.heap.size r.am r.m := ⟨hl.nil, fun a ha j v hv => (hb.cell (p := a.add j) (by rw [addr_add_block]; exact hl.lt a ha (by intro e; rw [e] at hv; simp at hv))).trans (hl.cell a ha j v hv), fun a ha hx => Nat.lt_of_lt_of_le (hl.lt a ha hx) h.2.2.2⟩
  refine (lrput_any N p bud L C r.k hk r.a r.am r.m.length r.mc r.m w h.1 rfl hls h8 (fun a ha hx hm => ?_) h.2.2.2).mono ?_
  · have h1 := h.2.2.1 _ hm
    have h2 := hl.lt a ha hx
    omega
  · rintro e w' ⟨C', rfl, s, m⟩
    exact ⟨C', rfl, ⟨s, h.2.mod m⟩, m⟩
theorem stdrop_any (N p : Nat) (w0 w : World) (bud : Int) (L : List En) (C : Cs) (k : Ky) (hk : kyW k) (h : StC N w0 w p bud L C) : Calls Try.prog 20 #[.pointer (some ⟨p, 0, none⟩), .agg #[.int .i64 k.1, .int .i64 k.2.1, .int .i64 k.2.2.1, .int .i64 k.2.2.2]] w fun e w' => ∃ C', e = .returned (.bool (hasE k L)) ∧ StC N w0 w' p bud (dropE k L) C' ∧ ModC w w' p C C' := by
  refine (lrdrop_any N p bud L C k hk w h.1).mono ?_
  rintro e w' ⟨C', rfl, s, m⟩
  exact ⟨C', rfl, ⟨s, h.2.mod m⟩, m⟩
theorem lputL_none {bud : Int} (hb : bud ≤ 63) (k : Ky) (A : Q) (n : Nat) (M : List Value) : lputL bud [] k A n M = [] := by
  unfold lputL
  rw [if_neg (show ¬ 64 + (n : Int) ≤ bud by omega)]
  split <;> rfl
theorem lputB_none {bud : Int} (hb : bud ≤ 63) (A : Q) (n : Nat) : lputB bud A n = false := by
  unfold lputB
  rw [show decide (64 + (n : Int) ≤ bud) = false by simp; omega, Bool.and_false]
theorem lrL_range {w : World} {B : Nat} {A : Option Addr} {L : List LRec} {i : Nat} {r : LRec} (h : Lists w B A (L.flatMap lrL)) (hi : L[i]? = some r) : ∃ b o, A = some ⟨b, o, none⟩ ∧ b < B ∧ w.rangeAt b (o + i * 11) #[.int .i64 r.kd, .int .i64 r.k.1, .int .i64 r.k.2.1, .int .i64 r.k.2.2.1, .int .i64 r.k.2.2.2, .int .i64 r.a.x0, .int .i64 r.a.y0, .int .i64 r.a.x1, .int .i64 r.a.y1, .slice r.am r.m.length r.mc, .int .i64 r.n].toList := lists_flat lrLen (by omega) h hi
end Go.Proofs.Ytaaboochologaaa

namespace Go.Proofs.Ytaaboochologaaa
open Go Go.RowKit
set_option linter.unusedVariables false
set_option linter.unusedSimpArgs false

theorem keyEq_run (k y : Ky) (w : World) : (binOp .eql 39 (.agg #[.int .i64 k.1, .int .i64 k.2.1, .int .i64 k.2.2.1, .int .i64 k.2.2.2]) (.agg #[.int .i64 y.1, .int .i64 y.2.1, .int .i64 y.2.2.1, .int .i64 y.2.2.2])).run Try.prog w = .ok (.bool (decide (k = y))) w := by
  have hS : Try.prog.underlying 39 = some (.struct (Try.prog.fieldsOf 39)) := by kernel_rfl
  have hp : Try.prog.stoodInHeld 39 = false := by kernel_rfl
  have u3 := Try.underlying3
  have a3 := Try.isAgg3
  have z3 := Try.sizeOf3
  obtain ⟨k1, k2, k3, k4⟩ := k
  obtain ⟨y1, y2, y3, y4⟩ := y
  rw [run_eql_struct, show (10000 : Nat) = 9999 + 1 from rfl, run_equalIn_agg w 9999 39 _ _ hS hp]
  simp only [Program.fieldsOf, Try.underlying39]
  go_simp
  by_cases h1 : k1 = y1 <;> by_cases h2 : k2 = y2 <;> by_cases h3 : k3 = y3 <;> by_cases h4 : k4 = y4 <;> simp [h1, h2, h3, h4]
theorem keyEq_guard (k y : Ky) (x z : Operand) (w : World) : (eqGuard .eql 39 x z (.agg #[.int .i64 k.1, .int .i64 k.2.1, .int .i64 k.2.2.1, .int .i64 k.2.2.2]) (.agg #[.int .i64 y.1, .int .i64 y.2.1, .int .i64 y.2.2.1, .int .i64 y.2.2.2])).run Try.prog w = .ok () w :=
  run_eqGuard_agg w .eql 39 x z _ _ (by kernel_rfl)
theorem listsB {w V : World} {A : Option Addr} {M : List Value} (h : Lists w w.heap.size A M) (b : Below w.heap.size w V) : Lists V V.heap.size A M :=
  ⟨h.nil, fun a ha j v hv => (b.cell (p := a.add j) (by rw [addr_add_block]; exact h.lt a ha (by intro e; rw [e] at hv; simp at hv))).trans (h.cell a ha j v hv), fun a ha hx => Nat.lt_of_lt_of_le (h.lt a ha hx) b.size⟩
set_option maxRecDepth 100000 in
theorem rsame_yes (A : Q) (Am Bm : Option Addr) (n c d : Nat) (M : List Value) (w : World) (h1 : Lists w w.heap.size Am M) (h2 : Lists w w.heap.size Bm M) (hn : M.length = n) (h8 : Bytes8 M) : Calls Try.prog 14 #[.agg #[.int .i64 A.x0, .int .i64 A.y0, .int .i64 A.x1, .int .i64 A.y1, .slice Am n c], .agg #[.int .i64 A.x0, .int .i64 A.y0, .int .i64 A.x1, .int .i64 A.y1, .slice Bm n d]] w fun e w' => e = .returned (.bool true) ∧ Below w.heap.size w w' := by
  obtain ⟨wa, hwa⟩ : ∃ wa, wa = (w.alloc (.cells #[.int .i64 A.x0, .int .i64 A.y0, .int .i64 A.x1, .int .i64 A.y1, .slice Am n c] 37)).alloc (.cells #[.int .i64 A.x0, .int .i64 A.y0, .int .i64 A.x1, .int .i64 A.y1, .slice Bm n d] 37) := ⟨_, rfl⟩
  have B : Below w.heap.size w wa := hwa ▸ below_a2 _ _ _
  have K1 : Blk wa w.heap.size 37 #[.int .i64 A.x0, .int .i64 A.y0, .int .i64 A.x1, .int .i64 A.y1, .slice Am n c] := hwa ▸ (Blk.new w 37 #[.int .i64 A.x0, .int .i64 A.y0, .int .i64 A.x1, .int .i64 A.y1, .slice Am n c]).below (below_a1 _ _)
  have K2 : Blk wa (w.heap.size + 1) 37 #[.int .i64 A.x0, .int .i64 A.y0, .int .i64 A.x1, .int .i64 A.y1, .slice Bm n d] := by
    have := Blk.new (w.alloc (.cells #[.int .i64 A.x0, .int .i64 A.y0, .int .i64 A.x1, .int .i64 A.y1, .slice Am n c] 37)) 37 #[.int .i64 A.x0, .int .i64 A.y0, .int .i64 A.x1, .int .i64 A.y1, .slice Bm n d]
    rw [World.size_alloc] at this
    exact hwa ▸ this
  have q1 := conv_lists (n := n) (c := c) (listsB h1 B) hn h8
  have q2 := conv_lists (n := n) (c := d) (listsB h2 B) hn h8
  have e1 := fun W => eqB_run A.x0 A.y0 A.x1 A.y1 A.x0 A.y0 A.x1 A.y1 W
  have e2 := fun x y W => eqB_guard A.x0 A.y0 A.x1 A.y1 A.x0 A.y0 A.x1 A.y1 x y W
  rw [show eq4 A.x0 A.y0 A.x1 A.y1 A.x0 A.y0 A.x1 A.y1 = true by simp [eq4]] at e1
  have us := Try.underlying9
  have k0 := K1.cell 0; have k1 := K1.cell 1; have k2 := K1.cell 2; have k3 := K1.cell 3; have k4 := K1.cell 4; have kl := K1.lt; simp only [List.getElem?_toArray, List.getElem?_cons_succ, List.getElem?_cons_zero] at k0 k1 k2 k3 k4
  have m0 := K2.cell 0; have m1 := K2.cell 1; have m2 := K2.cell 2; have m3 := K2.cell 3; have m4 := K2.cell 4; have ml := K2.lt; simp only [List.getElem?_toArray, List.getElem?_cons_succ, List.getElem?_cons_zero] at m0 m1 m2 m3 m4
  have HWA := Lib.hid hwa
  clear h1 h2 hn h8 K1 K2 hwa
  go_enter Try.func14, Try.ntmps14
  go_upto_region 1 with fail
  rw [← HWA.out]
  go_wp2
  go_ret
  exact ⟨rfl, B⟩
theorem find_drop_same (k : Ky) (L : List En) : (dropE k L).find? (isK k) = none := List.find?_eq_none.2 fun e he => by
  have := dropE_mem he
  unfold isK; simp [this]
theorem find_drop_other {k y : Ky} (h : y ≠ k) : ∀ L : List En, (dropE k L).find? (isK y) = L.find? (isK y)
  | [] => rfl
  | e :: L => by
    have ih := find_drop_other h L
    unfold dropE at ih ⊢
    by_cases h1 : e.1 = k
    · rw [List.filter_cons_of_neg (by simp [h1]), ih, List.find?_cons_of_neg (by unfold isK; simp [h1, Ne.symm h])]
    · rw [List.filter_cons_of_pos (by simp [h1])]
      by_cases h2 : isK y e = true
      · rw [List.find?_cons_of_pos h2, List.find?_cons_of_pos h2]
      · rw [List.find?_cons_of_neg h2, List.find?_cons_of_neg h2, ih]
theorem find_shr (y : Ky) : ∀ (L : List En) (m : Int) (en : En), (shrE m L).find? (isK y) = some en → L.find? (isK y) = some en
  | [], m, en, h => by simp [shrE] at h
  | e :: L, m, en, h => by
    unfold shrE at h
    split at h
    · by_cases h2 : isK y e = true
      · rw [List.find?_cons_of_pos h2] at h ⊢; exact h
      · rw [List.find?_cons_of_neg h2] at h ⊢; exact find_shr y L _ en h
    · simp at h
theorem last_same {bud : Int} {L : List En} {y : Ky} {A : Q} {n : Nat} {M : List Value} (hc : chkB A n = true) : ∀ en, (lputL bud L y A n M).find? (isK y) = some en → lputB bud A n = true ∧ en.2 = (A, M) := fun en h => by
  unfold lputL at h
  rw [hc, if_pos rfl] at h
  by_cases hg : 64 + (n : Int) ≤ bud
  · rw [if_pos hg, List.find?_cons_of_pos (by unfold isK; simp)] at h
    cases h
    exact ⟨by unfold lputB; rw [hc]; simp [hg], rfl⟩
  · rw [if_neg hg, find_drop_same] at h
    cases h
theorem last_other {bud : Int} {L : List En} {k y : Ky} {A : Q} {n : Nat} {M : List Value} (hk : y ≠ k) : ∀ en, (lputL bud L k A n M).find? (isK y) = some en → L.find? (isK y) = some en := fun en h => by
  unfold lputL at h
  split at h
  · split at h
    · rw [List.find?_cons_of_neg (by unfold isK; simp [Ne.symm hk])] at h
      have := find_shr y _ _ en h
      rwa [find_drop_other hk] at this
    · rwa [find_drop_other hk] at h
  · exact h
theorem last_get {L : List En} {k y : Ky} {e : En} (he : L.find? (isK k) = some e) : ∀ en, (e :: dropE k L).find? (isK y) = some en → L.find? (isK y) = some en := fun en h => by
  have hk1 : e.1 = k := by have := List.find?_some he; unfold isK at this; simpa using this
  by_cases hy : y = k
  · subst hy
    rw [List.find?_cons_of_pos (by unfold isK; simp [hk1])] at h
    rw [he]; exact h
  · rw [List.find?_cons_of_neg (by unfold isK; simp [hk1, Ne.symm hy]), find_drop_other hy] at h
    exact h
end Go.Proofs.Ytaaboochologaaa

namespace Go.Proofs.Ytaaboochologaaa
open Go Go.RowKit
set_option linter.unusedVariables false
set_option linter.unusedSimpArgs false

/-- An entry of the document's cache. -/
structure RE where
  k : Ky
  bx : Q
  rv : Value
  bs : List Value
def reL (e : RE) : List Value := [.int .i64 e.k.1, .int .i64 e.k.2.1, .int .i64 e.k.2.2.1, .int .i64 e.k.2.2.2, .int .i64 e.bx.x0, .int .i64 e.bx.y0, .int .i64 e.bx.x1, .int .i64 e.bx.y1, e.rv]
theorem reLen (e : RE) : (reL e).length = 9 := rfl
def ren (e : RE) : En := (e.k, e.bx, e.bs)
/-- An entry's rows lie below B. -/
def ReOk (W0 : World) (B : Nat) (e : RE) : Prop := ∃ A c, e.rv = .slice A e.bs.length c ∧ Lists W0 B A e.bs ∧ Bytes8 e.bs
/-- The document's cache at block q. -/
structure RfS (W0 W : World) (B q : Nat) (bud : Int) (E : List RE) (lv : Value) : Prop where
  blk : Blk W q 32 #[.int .i64 bud, lv]
  own : W.ownsRow B 47 9 lv E.length (E.flatMap reL)
  low : B ≤ q
  base : Below B W0 W
  ok : ∀ e ∈ E, ReOk W0 B e
theorem RfS.below {W0 W V : World} {B q : Nat} {bud : Int} {E : List RE} {lv : Value} (h : RfS W0 W B q bud E lv) (b : Below W.heap.size W V) : RfS W0 V B q bud E lv :=
  ⟨h.blk.below b, own_only h.own (Only.of_below b []) (fun _ _ h => (nomatch h)), h.low, h.base.trans (b.mono (by have := h.blk.lt; have := h.low; omega)), h.ok⟩
/-- An entry, as it lies. -/
theorem RfS.at {W0 W : World} {B q : Nat} {bud : Int} {E : List RE} {lv : Value} (h : RfS W0 W B q bud E lv) {i : Nat} {e : RE} (hi : E[i]? = some e) : ∃ g c, lv = .slice (some ⟨g, 0, none⟩) E.length c ∧ E.length ≤ c ∧ g < W.heap.size ∧ g ≠ q ∧ ∀ j v, (reL e)[j]? = some v → W.cell? ⟨g, i * 9 + j, none⟩ = some v := by
  have hlt := (List.getElem?_eq_some_iff.1 hi).1
  rcases h.own.2 with ⟨_, h2⟩ | ⟨g, cap, cur, h2, h3, h4, h5, _⟩
  · omega
  · refine ⟨g, cap, h2, h5, (Array.getElem?_eq_some_iff.1 h4).1, fun e => ?_, fun j v hv => ?_⟩
    · subst e
      have := h.blk
      unfold Blk at this
      rw [h4] at this
      cases this
    · have ho := h.own
      rw [h2] at ho
      have hj := (List.getElem?_eq_some_iff.1 hv).1
      rw [reLen] at hj
      rw [ho.cellAt _ (by omega)]
      exact flat_at reLen E i e hi j v hv
theorem sumE_take (L : List En) (j : Nat) {e : En} (h : L[j]? = some e) : sumE (L.take (j + 1)) = sumE (L.take j) + costE e := by
  rw [List.take_add_one, h, sumE_app]
  simp [sumE]
theorem sumE_take_le (L : List En) (j : Nat) : sumE (L.take j) ≤ sumE L := by
  have h := sumE_app (L.take j) (L.drop j)
  rw [List.take_append_drop] at h
  have := sumE_nn (L.drop j)
  omega
set_option maxRecDepth 100000 in
theorem rheld_any (W0 W : World) (B q : Nat) (bud : Int) (E : List RE) (lv : Value) (h : RfS W0 W B q bud E lv) (hs : sumE (E.map ren) ≤ 4611686018427387904) : Calls Try.prog 29 #[.pointer (some ⟨q, 0, none⟩)] W fun e w' => e = .returned (.int .i64 (sumE (E.map ren))) ∧ Below W.heap.size W w' := by
  obtain ⟨A, c, rfl, hl, hc⟩ := own_lists h.own
  have hlen := sumE_len (E.map ren)
  rw [List.length_map] at hlen
  obtain ⟨n, hn⟩ : ∃ n, n = E.length := ⟨_, rfl⟩
  have c1 := h.blk.cell 1
  simp only [List.getElem?_toArray, List.getElem?_cons_succ, List.getElem?_cons_zero] at c1
  have hq := h.blk.lt
  rw [← hn] at c1
  have H := Lib.hid h
  have HN := Lib.hid (And.intro hn hs)
  have hn62 : n ≤ 4611686018427387904 := by omega
  clear h hl hlen hn hs hc
  go_enter Try.func29, Try.ntmps29
  go_wp2
  go_loopw [3, 4] (fun s i wr => ∃ j : Nat, j ≤ n ∧ i = .int .i64 (j : Nat) ∧ s = .int .i64 (sumE ((E.map ren).take j)) ∧ Below W.heap.size W wr) (fun _ i _ => n - (intOf i).toNat)
  case atStart => exact ⟨0, Nat.zero_le _, rfl, rfl, Below.refl _ _⟩
  case round =>
    obtain ⟨j, hj, rfl, rfl, hb⟩ := hrel
    have HB := Lib.hid hb
    have e1 := (hb.cell (p := ⟨q, 1, none⟩) hq).trans c1
    have hq2 := Nat.lt_of_lt_of_le hq hb.size
    by_cases hlt : j < n
    · have hje : j < E.length := by rw [← HN.out.1]; exact hlt
      obtain ⟨e, he⟩ : ∃ e, E[j]? = some e := ⟨_, List.getElem?_eq_getElem hje⟩
      obtain ⟨g, c2, hlv, hc2, hg, hgq, hcell⟩ := H.out.at he
      simp only [Value.slice.injEq] at hlv
      obtain ⟨rfl, _, rfl⟩ := hlv
      obtain ⟨Ar, cr, hrv, _, _⟩ := H.out.ok e (List.mem_of_getElem? he)
      have hr : wr.rangeAt g (j * 9 + 4) #[.int .i64 e.bx.x0, .int .i64 e.bx.y0, .int .i64 e.bx.x1, .int .i64 e.bx.y1, .slice Ar e.bs.length cr].toList := fun i v hv => by
        have hi5 : i < 5 := by have := (List.getElem?_eq_some_iff.1 hv).1; simpa using this
        refine (hb.cell (p := ⟨g, j * 9 + 4 + i, none⟩) hg).trans ?_
        rw [Nat.add_assoc]
        refine hcell (4 + i) v ?_
        rw [← hv]
        unfold reL
        rw [hrv]
        match i, hi5 with
        | 0, _ => rfl
        | 1, _ => rfl
        | 2, _ => rfl
        | 3, _ => rfl
        | 4, _ => rfl
      have hst := sumE_take (E.map ren) j (e := ren e) (by rw [List.getElem?_map, he]; rfl)
      have hle := sumE_take_le (E.map ren) (j + 1)
      have hnn := sumE_nn ((E.map ren).take j)
      have hce : costE (ren e) = 64 + (e.bs.length : Int) := rfl
      have hs62 := HN.out.2
      have CC := fun W => rlcost_any e.bx Ar e.bs.length cr (by omega) W
      have hw : wrap64 (sumE ((E.map ren).take j) + (64 + (e.bs.length : Int))) = sumE ((E.map ren).take (j + 1)) := by rw [hst, hce]; unfold wrap64; omega
      obtain ⟨x, hx⟩ : ∃ x, x = sumE ((E.map ren).take j) := ⟨_, rfl⟩
      have HW := Lib.hid hw
      rw [← hx] at HW
      rw [← hx]
      clear hb hcell he hst hle hnn hce hs62 hw hx hrv
      go_wp2_with (first
        | (refine wpList_load_mid rfl 37 (.tmp 21) (by with_reducible rfl) g (j * 9 + 4) (by rfl) #[.int .i64 e.bx.x0, .int .i64 e.bx.y0, .int .i64 e.bx.x1, .int .i64 e.bx.y1, .slice Ar e.bs.length cr].toList _ hr Try.underlying37 rfl mkInfoL ?_)
        | (go_at_call 17; refine (CC _).mono ?_; rintro e w2 ⟨rfl, b2⟩))
      go_roundw
      case rel => exact ⟨j + 1, by omega, by go_num, by first | exact congrArg (Value.int .i64) HW.out | (rw [← HW.out]; rfl), HB.out.trans (b2.mono HB.out.size)⟩
      case measure => simp [intOf]; omega
    · obtain rfl : n = j := by omega
      go_wp2
      go_ret
      refine ⟨?_, HB.out⟩
      have e2 : (E.map ren).take n = E.map ren := List.take_of_length_le (by rw [List.length_map]; have := HN.out.1; omega)
      rw [e2]; rfl
end Go.Proofs.Ytaaboochologaaa

namespace Go.Proofs.Ytaaboochologaaa
open Go Go.RowKit
set_option linter.unusedVariables false
set_option linter.unusedSimpArgs false

theorem enInfo3 : (Try.prog.info? 47).map (fun i => (i.zero, i.size, i.bytes)) = some (some (.agg #[.int .i64 0, .int .i64 0, .int .i64 0, .int .i64 0, .int .i64 0, .int .i64 0, .int .i64 0, .int .i64 0, .slice none 0 0]), 9, 88) := by kernel_rfl
theorem enInfoL : (Try.prog.info? 47).map (·.size) = some 9 := by kernel_rfl
theorem reL_one (E : List RE) (h : ∀ e ∈ E, ∃ A c, e.rv = .slice A e.bs.length c) : ∀ u ∈ E.flatMap reL, u.oneCell' = true := fun u hu => by
  obtain ⟨e, he, hm⟩ := List.mem_flatMap.1 hu
  obtain ⟨A, c, hr⟩ := h e he
  unfold reL at hm
  simp only [List.mem_cons, List.not_mem_nil, or_false] at hm
  rcases hm with rfl | rfl | rfl | rfl | rfl | rfl | rfl | rfl | rfl <;> first | rfl | (rw [hr]; rfl)
theorem own_newL (w : World) (B : Nat) (hB : B ≤ w.heap.size) : (w.alloc (.cells #[] 47)).ownsRow B 47 9 (.slice (some ⟨w.heap.size, 0, none⟩) 0 0) 0 [] := ⟨rfl, .inr ⟨w.heap.size, 0, #[], rfl, hB, heap_alloc_new w _, Nat.le_refl _, Nat.zero_le _, rfl, rfl⟩⟩
def lenV2 (q : Nat) (w : World) : Nat := match w.cell? ⟨q, 1, none⟩ with | some (.slice _ n _) => n | _ => 0
/-- Other entries. -/
theorem RfS.set {W0 W V : World} {B q : Nat} {bud : Int} {E E' : List RE} {lv lv' : Value} (h : RfS W0 W B q bud E lv) (o : Only W V []) (ho : V.ownsRow B 47 9 lv' E'.length (E'.flatMap reL)) (hok : ∀ e ∈ E', ReOk W0 B e) : RfS W0 (V.setCell ⟨q, 1, none⟩ lv') B q bud E' lv' ∧ Only W (V.setCell ⟨q, 1, none⟩ lv') [q] := by
  have b1 := h.blk.only o (by simp)
  have o2 : Only V (V.setCell ⟨q, 1, none⟩ lv') [q] := (Only.refl _ _).set (.inl (by simp)) _
  have hlt := h.blk.lt
  have hlow := h.low
  refine ⟨⟨b1.set 1 lv', own_only ho o2 (fun b hb hm => by simp at hm; subst hm; exact own_ne ho b1 (by decide) hb), h.low, ?_, hok⟩, (o.more (fun b hb => (nomatch hb))).trans o2 (fun b hb => .inl hb)⟩
  exact (h.base.trans ((o.to_below (B := B) (by omega) (fun b hb => (nomatch hb))))).trans (o2.to_below (by have := o.size; omega) (by simp; exact h.low))
theorem take_flat (E : List RE) (k : Nat) : (E.flatMap reL).take (k * 9) = (E.take k).flatMap reL := by
  induction E generalizing k with
  | nil => simp
  | cons e E ih =>
    cases k with
    | zero => simp
    | succ k =>
      rw [List.flatMap_cons, List.take_succ_cons, List.flatMap_cons, List.take_append, reLen, List.take_of_length_le (by rw [reLen]; omega), show (k + 1) * 9 - 9 = k * 9 by omega, ih]
set_option maxRecDepth 100000 in
set_option maxHeartbeats 1000000 in
theorem rshrink_any (W0 W : World) (B q : Nat) (bud : Int) (E : List RE) (lv : Value) (h : RfS W0 W B q bud E lv) (hb0 : 0 ≤ bud) (hs : sumE (E.map ren) ≤ 1099511627776) : Calls Try.prog 40 #[.pointer (some ⟨q, 0, none⟩)] W fun e w' => ∃ lv' E', e = .returned (.tuple #[]) ∧ RfS W0 w' B q bud E' lv' ∧ E'.map ren = shrE bud (E.map ren) ∧ (∀ e ∈ E', e ∈ E) ∧ Only W w' [q] := by
  have H := Lib.hid (And.intro h hs)
  have hlq := h.low
  obtain ⟨i0, hi, hz0, hz1, hz2⟩ := info_parts enInfo3
  clear h hs
  go_enter Try.func40, Try.ntmps40
  go_wp2
  go_loopw [] (fun wr => ∃ lv' E', RfS W0 wr B q bud E' lv' ∧ shrE bud (E'.map ren) = shrE bud (E.map ren) ∧ (∀ e ∈ E', e ∈ E) ∧ Only W wr [q] ∧ sumE (E'.map ren) ≤ 1099511627776) (fun wr => lenV2 q wr)
  case atStart => exact ⟨lv, E, H.out.1, rfl, fun _ h => h, Only.refl _ _, H.out.2⟩
  case round =>
    obtain ⟨lv1, E1, h1, hsh, hsub, ho, hs1⟩ := hrel
    have HS := Lib.hid (And.intro h1 (And.intro hsh (And.intro hsub (And.intro ho hs1))))
    have CH := Lib.hid (fun V (hV : Below wr.heap.size wr V) => rheld_any W0 V B q bud E1 lv1 (h1.below hV) (by omega))
    have c0 := h1.blk.cell 0
    have c1 := h1.blk.cell 1
    simp only [List.getElem?_toArray, List.getElem?_cons_succ, List.getElem?_cons_zero] at c0 c1
    have hq := h1.blk.lt
    have hI : Below wr.heap.size wr wr.drew := (Below.refl _ _).drew
    have HD := Lib.hid (fun (V : World) (hV : Below wr.heap.size wr V) => And.intro ((hV.cell (p := ⟨q, 0, none⟩) hq).trans c0) (And.intro ((hV.cell (p := ⟨q, 1, none⟩) hq).trans c1) (Nat.lt_of_lt_of_le hq hV.size)))
    obtain ⟨x, hx⟩ : ∃ x, x = sumE (E1.map ren) := ⟨_, rfl⟩
    rw [← hx] at CH
    have HX := Lib.hid hx
    clear h1 hsh hsub ho hs1 c0 c1 hx
    go_wp2
    refine wp_region_chain (fun V => Below wr.heap.size wr V) [(0, false), (2, false), (3, false), (4, false), (5, false), (1, true), (6, false)] (by kernel_rfl) (by kernel_rfl) hI ?_
    repeat (first
      | (refine ChainL.skip (o := ?_) ?_ ?_ ?_; rotate_left; (focus (first | (simp only [List.getElem?_toArray, List.getElem?_cons_succ, List.getElem?_cons_zero]; with_reducible rfl) | (simp only [List.getElem?_toArray, List.getElem?_cons_zero]; with_reducible rfl))); (focus rfl); simp only [Act.put, List.setIfInBounds_toArray, List.set_cons_zero, List.set_cons_succ])
      | (refine ChainL.val (o := ?_) (v := ?_) ?_ ?_ ?_ ?_ ?_; rotate_left 2; (focus (first | (simp only [List.getElem?_toArray, List.getElem?_cons_succ, List.getElem?_cons_zero]; with_reducible rfl) | (simp only [List.getElem?_toArray, List.getElem?_cons_zero]; with_reducible rfl))); (focus (intro _ _ h; cases h)); (focus rfl); (focus (intro w' hI; obtain ⟨c0, c1, lq⟩ := HD.out _ hI; go_simp <;> with_reducible rfl)); simp only [Act.put, List.setIfInBounds_toArray, List.set_cons_zero, List.set_cons_succ]))
    refine ChainL.call (o := ?_) (f := ?_) (args := ?_) ?_ ?_ ?_ ?_
    rotate_left 3
    (focus (first | (simp only [List.getElem?_toArray, List.getElem?_cons_succ, List.getElem?_cons_zero]; with_reducible rfl) | (simp only [List.getElem?_toArray, List.getElem?_cons_zero]; with_reducible rfl)))
    (focus rfl)
    (focus (go_simp; (constructor <;> with_reducible rfl)))
    with_reducible refine (CH.out _ hI).mono ?_
    rintro e wc ⟨rfl, bc⟩
    have bb : Below wr.heap.size wr wc := hI.trans (bc.mono hI.size)
    refine ⟨_, rfl, bb, ?_⟩
    simp only [Act.put, List.setIfInBounds_toArray, List.set_cons_zero, List.set_cons_succ]
    repeat (first
      | (refine ChainL.skip (o := ?_) ?_ ?_ ?_; rotate_left; (focus (first | (simp only [List.getElem?_toArray, List.getElem?_cons_succ, List.getElem?_cons_zero]; with_reducible rfl) | (simp only [List.getElem?_toArray, List.getElem?_cons_zero]; with_reducible rfl))); (focus rfl); simp only [Act.put, List.setIfInBounds_toArray, List.set_cons_zero, List.set_cons_succ])
      | (refine ChainL.val (o := ?_) (v := ?_) ?_ ?_ ?_ ?_ ?_; rotate_left 2; (focus (first | (simp only [List.getElem?_toArray, List.getElem?_cons_succ, List.getElem?_cons_zero]; with_reducible rfl) | (simp only [List.getElem?_toArray, List.getElem?_cons_zero]; with_reducible rfl))); (focus (intro _ _ h; cases h)); (focus rfl); (focus (intro w' hI; obtain ⟨c0, c1, lq⟩ := HD.out _ hI; go_simp <;> with_reducible rfl)); simp only [Act.put, List.setIfInBounds_toArray, List.set_cons_zero, List.set_cons_succ]))
    refine ChainL.nil ?_
    have HBB := Lib.hid bb
    clear bb bc hI
    by_cases hlt : bud < x
    · obtain ⟨hx1, _⟩ : 0 ≤ x ∧ True := ⟨by omega, trivial⟩
      obtain ⟨E2, e, hE⟩ : ∃ E2 e, E1 = E2 ++ [e] := by
        rcases List.eq_nil_or_concat E1 with e | ⟨l, i, e⟩
        · have := HX.out
          rw [e] at this
          simp [sumE] at this
          omega
        · exact ⟨l, i, by rw [e, List.concat_eq_append]⟩
      subst hE
      have hc1 := HS.out.1.below HBB.out
      have hown := hc1.own
      obtain ⟨K, hK⟩ : ∃ K, K = (E2 ++ [e]).length := ⟨_, rfl⟩
      obtain ⟨k, hk⟩ : ∃ k, k = E2.length := ⟨_, rfl⟩
      have hKk1 : K = k + 1 := by rw [hK, hk]; simp
      obtain ⟨g, c, hlv, hcK, hgl⟩ : ∃ g c, lv1 = .slice (some ⟨g, 0, none⟩) K c ∧ K ≤ c ∧ g < wc.heap.size := by
        rcases hown.2 with ⟨_, h2⟩ | ⟨g, cap, cur, h2, h3, h4, h5, _⟩
        · simp at h2
        · exact ⟨g, cap, by rw [hK]; exact h2, by rw [hK]; exact h5, (Array.getElem?_eq_some_iff.1 h4).1⟩
      subst hlv
      have wm : wrap64 ((K : Int) - 1) = (k : Int) := by
        have := sumE_len ((E2 ++ [e]).map ren)
        rw [List.length_map] at this
        have h2 := HS.out.2.2.2.2
        unfold wrap64
        omega
      have hbig : K ≤ 17179869184 := by
        have := sumE_len ((E2 ++ [e]).map ren)
        rw [List.length_map] at this
        have h2 := HS.out.2.2.2.2
        omega
      have wm2 : IntKind.i64.wrap ((K : Int) - 1) = (k : Int) := by rw [IntWalk.i64_in _ (by omega)]; omega
      have n1 : ¬ c = 0 := by omega
      have n2 : k ≤ c := by omega
      have hKk : k < K := by omega
      have c1 := hc1.blk.cell 1
      simp only [List.getElem?_toArray, List.getElem?_cons_succ, List.getElem?_cons_zero] at c1
      have hq1 := hc1.blk.lt
      have HD2 := Lib.hid (fun (V : World) (hV : Below wc.heap.size wc V) => And.intro ((hV.cell (p := ⟨q, 1, none⟩) hq1).trans c1) (And.intro (Nat.lt_of_lt_of_le hq1 hV.size) (Nat.lt_of_lt_of_le hgl hV.size)))
      have hI : Below wc.heap.size wc wc.drew := (Below.refl _ _).drew
      have B1 : Below wc.heap.size wc (wc.drew.alloc (.cells #[] 47)) := hI.alloc (Nat.le_refl _) _
      have hBc : B ≤ wc.heap.size := by omega
      have own1 := own_newL wc.drew B hBc
      have hls : Lists (wc.drew.alloc (.cells #[] 47)) (wc.drew.alloc (.cells #[] 47)).heap.size (some ⟨g, 0, none⟩) (E2.flatMap reL) := by
        have hw := (hc1.below B1).own
        obtain ⟨A', c', e1, h2, _⟩ := own_lists hw
        simp only [Value.slice.injEq] at e1
        obtain ⟨rfl, _, _⟩ := e1
        have := lists_takeF h2 (k * 9)
        rw [take_flat, hk, List.take_left] at this
        exact this
      have hl9 : (E2.flatMap reL).length = k * 9 := by rw [flat_len reLen, hk]
      have h1c := reL_one E2 (fun x hx => by obtain ⟨A, c, h, _⟩ := hc1.ok x (by simp [hx]); exact ⟨A, c, h⟩)
      have HC := Lib.hid hc1
      have HK := Lib.hid (And.intro hK (And.intro hk hKk1))
      have HB1 := Lib.hid B1
      clear hc1 hown hK hk hKk1 c1
      go_upto_region 1 with fail
      refine wp_region_chain_last (fun V => Below wc.heap.size wc V) [(0, false), (2, false), (3, false), (4, false), (5, false), (6, false), (7, false), (8, false), (9, false), (10, false), (11, false), (12, false), (1, true), (13, true), (14, false), (15, false)] _ _ (by rfl) (by rfl) (by kernel_rfl) (by kernel_rfl) hI ?_
      repeat (first
        | (refine ChainL.skip (o := ?_) ?_ ?_ ?_; rotate_left; (focus (first | (simp only [List.getElem?_toArray, List.getElem?_cons_succ, List.getElem?_cons_zero]; with_reducible rfl) | (simp only [List.getElem?_toArray, List.getElem?_cons_zero]; with_reducible rfl))); (focus rfl); simp only [Act.put, List.setIfInBounds_toArray, List.set_cons_zero, List.set_cons_succ])
        | (refine ChainL.val (o := ?_) (v := ?_) ?_ ?_ ?_ ?_ ?_; rotate_left 2; (focus (first | (simp only [List.getElem?_toArray, List.getElem?_cons_succ, List.getElem?_cons_zero]; with_reducible rfl) | (simp only [List.getElem?_toArray, List.getElem?_cons_zero]; with_reducible rfl))); (focus (intro _ _ h; cases h)); (focus rfl); (focus (intro w' hI; obtain ⟨c1, lq, lg⟩ := HD2.out _ hI; go_simp <;> with_reducible rfl)); simp only [Act.put, List.setIfInBounds_toArray, List.set_cons_zero, List.set_cons_succ]))
      refine ChainL.does (o := ?_) (v := ?_) (w1 := ?_) ?_ ?_ ?_ ?_ ?_
      rotate_left 3
      (focus (first | (simp only [List.getElem?_toArray, List.getElem?_cons_succ, List.getElem?_cons_zero]; with_reducible rfl) | (simp only [List.getElem?_toArray, List.getElem?_cons_zero]; with_reducible rfl)))
      (focus rfl)
      (focus (go_simp; (constructor <;> with_reducible rfl)))
      (focus (exact HB1.out))
      simp only [Act.put, List.setIfInBounds_toArray, List.set_cons_zero, List.set_cons_succ]
      refine ChainL.append (o := ?_) ?_ ?_ (.tmp 10) (.tmp 21) 30 ?_ B 47 i0 (.agg #[.int .i64 0, .int .i64 0, .int .i64 0, .int .i64 0, .int .i64 0, .int .i64 0, .int .i64 0, .int .i64 0, .slice none 0 0]) 9 88 Try.underlying30 hi hz0 hz1 hz2 rfl (by decide) (.slice (some ⟨wc.heap.size, 0, none⟩) 0 0) 0 [] ?_ own1 _ (some ⟨g, 0, none⟩) k c (E2.flatMap reL) ?_ hls hl9 h1c ?_ ?_ ?_ ?_
      rotate_left 1
      (focus (first | (simp only [List.getElem?_toArray, List.getElem?_cons_succ, List.getElem?_cons_zero]; with_reducible rfl) | (simp only [List.getElem?_toArray, List.getElem?_cons_zero]; with_reducible rfl)))
      (focus rfl)
      (focus rfl)
      (focus rfl)
      (focus rfl)
      (focus (simp only [maxLen]; omega))
      (focus omega)
      (focus (exact Nat.le_trans hBc HB1.out.size))
      intro v' w' own' hg' hat'
      rw [Nat.zero_add, List.nil_append] at own'
      have o1 : Only wc w' [] := (Only.of_below HB1.out []).trans ((Only.refl _ [wc.heap.size]).grown hg' (fun b hb => .inl (by simp [Value.ownBlock] at hb; simp [hb]))) (fun b hb => .inr (by simp at hb; omega))
      have bw' := o1.nil_below
      refine ⟨bw', ?_⟩
      simp only [Act.put, List.setIfInBounds_toArray, List.set_cons_zero, List.set_cons_succ]
      repeat (first
        | (refine ChainL.skip (o := ?_) ?_ ?_ ?_; rotate_left; (focus (first | (simp only [List.getElem?_toArray, List.getElem?_cons_succ, List.getElem?_cons_zero]; with_reducible rfl) | (simp only [List.getElem?_toArray, List.getElem?_cons_zero]; with_reducible rfl))); (focus rfl); simp only [Act.put, List.setIfInBounds_toArray, List.set_cons_zero, List.set_cons_succ])
        | (refine ChainL.val (o := ?_) (v := ?_) ?_ ?_ ?_ ?_ ?_; rotate_left 2; (focus (first | (simp only [List.getElem?_toArray, List.getElem?_cons_succ, List.getElem?_cons_zero]; with_reducible rfl) | (simp only [List.getElem?_toArray, List.getElem?_cons_zero]; with_reducible rfl))); (focus (intro _ _ h; cases h)); (focus rfl); (focus (intro w' hI; obtain ⟨c1, lq, lg⟩ := HD2.out _ hI; go_simp <;> with_reducible rfl)); simp only [Act.put, List.setIfInBounds_toArray, List.set_cons_zero, List.set_cons_succ]))
      refine ChainL.nil ?_
      obtain ⟨A', n', hv', hl', hn'⟩ := own_lists own'
      have hRS := HC.out.set (V := w') (E' := E2) (lv' := v') o1 (by rw [← HK.out.2.1]; exact own') (fun e he => HC.out.ok e (by simp [he]))
      subst hv'
      have c1' := (hRS.1.blk).lt
      have b1' := (HC.out.blk.only o1 (by simp)).cell 1
      have f1' := (HC.out.blk.only o1 (by simp)).frozen 1
      have l1' := (HC.out.blk.only o1 (by simp)).lt
      simp only [List.getElem?_toArray, List.getElem?_cons_succ, List.getElem?_cons_zero] at b1'
      have HRS := Lib.hid hRS
      clear hRS own' hl' hn' hg' hat' bw' c1' hls hl9 h1c own1
      go_wp2
      go_roundw
      case rel =>
        obtain ⟨h1, h2, h3, h4, h5⟩ := HS.out
        refine ⟨_, E2, HRS.out.1, ?_, fun e he => h3 e (by simp [he]), ((h4.trans (Only.of_below HBB.out []) (fun b hb => (nomatch hb))).trans HRS.out.2 (fun b hb => .inl hb)), ?_⟩
        · rw [← h2, List.map_append]
          refine (shrE_snoc _ _ _ ?_).symm
          have e1 : E2.map ren ++ [ren e] = (E2 ++ [e]).map ren := by simp
          rw [e1, ← HX.out]; exact hlt
        · have e1 : sumE ((E2 ++ [e]).map ren) = sumE (E2.map ren) + costE (ren e) := by rw [List.map_append, sumE_app]; simp [sumE]
          have := costE_pos (ren e)
          omega
      case measure =>
        have d1 := HRS.out.1.blk.cell 1
        have d2 := (HC.out.blk).cell 1
        have d3 := HS.out.1.blk.cell 1
        simp only [List.getElem?_toArray, List.getElem?_cons_succ, List.getElem?_cons_zero] at d1 d3
        unfold lenV2
        rw [d1, d3]
        dsimp only
        omega
    · go_wp2
      have hfit : shrE bud (E1.map ren) = E1.map ren := shrE_fit _ _ (by rw [← HX.out]; omega)
      refine bodyPost_end (results_none rfl _ _ _) rfl ⟨rfl, lv1, E1, HS.out.1.below HBB.out, by rw [← HS.out.2.1, hfit], HS.out.2.2.1, HS.out.2.2.2.1.trans (Only.of_below HBB.out []) (fun b hb => (nomatch hb))⟩
end Go.Proofs.Ytaaboochologaaa
