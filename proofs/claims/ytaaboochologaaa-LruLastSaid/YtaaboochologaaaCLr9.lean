/- Part 10 of the proof: LrT. -/
import Derived.Test.YtaaboochologaaaCLr8

namespace Go.Proofs.Ytaaboochologaaa
open Go Go.ChangeShapes Go.WideShapes Go.ChangeAt Go.RowKit
set_option linter.unusedVariables false
set_option linter.unusedSimpArgs false
/-- A call, as it lies. -/
structure LRec where
  kd : Int
  k : Ky
  a : Q
  am : Option Addr
  mc : Nat
  m : List Value
  n : Int
def lrL (r : LRec) : List Value := [.int .i64 r.kd, .int .i64 r.k.1, .int .i64 r.k.2.1, .int .i64 r.k.2.2.1, .int .i64 r.k.2.2.2, .int .i64 r.a.x0, .int .i64 r.a.y0, .int .i64 r.a.x1, .int .i64 r.a.y1, .slice r.am r.m.length r.mc, .int .i64 r.n]
theorem lrLen (r : LRec) : (lrL r).length = 11 := rfl
theorem cellsLC : Try.prog.cellsOf 41 = 11 := by kernel_rfl
/-- What lies behind a call's slice; its key's numbers. -/
def LrOk (w : World) (B : Nat) (r : LRec) : Prop := Lists w B r.am r.m ∧ Bytes8 r.m ∧ r.m.length ≤ r.mc ∧ r.mc ≤ 9223372036854775807 ∧ kyW r.k
theorem wf_in64 {x : Int} (h : (Lit.int .i64 x).wf = true) : in64 x := by
  simp [Lit.wf, IntKind.min, IntKind.max] at h
  simp [IntKind.signed, IntKind.bits] at h
  unfold in64
  omega
section
variable {H : Type} {enc : TypeId × Value → H}
set_option maxRecDepth 100000 in
theorem open_key4 {w : World} {base fuel : Nat} {spare : Nat → Bool} {held : Bool} {c0 c1 c2 c3 : Value} {x : DataW H × List MemPlace}
    (h : DataW.trod enc Try.prog w base spare held fuel 39 [c0, c1, c2, c3] = some x) : ∃ k : Ky, c0 = .int .i64 k.1 ∧ c1 = .int .i64 k.2.1 ∧ c2 = .int .i64 k.2.2.1 ∧ c3 = .int .i64 k.2.2.2 ∧ kyW k := by
  obtain ⟨zs, m, _, _, _, hlen2, hb⟩ := DataW.trod_struct Try.underlying39 h
  match zs, hlen2 with
  | [z0, z1, z2, z3], _ =>
    have k0 := hb 0 _ rfl
    have k1 := hb 1 _ rfl
    have k2 := hb 2 _ rfl
    have k3 := hb 3 _ rfl
    simp [cellsICn] at k0 k1 k2 k3
    obtain ⟨a0, e0, _, f0⟩ := DataW.trod_int Try.underlying3 k0
    obtain ⟨a1, e1, _, f1⟩ := DataW.trod_int Try.underlying3 k1
    obtain ⟨a2, e2, _, f2⟩ := DataW.trod_int Try.underlying3 k2
    obtain ⟨a3, e3, _, f3⟩ := DataW.trod_int Try.underlying3 k3
    simp at e0 e1 e2 e3
    exact ⟨(a0, a1, a2, a3), e0, e1, e2, e3, wf_in64 f0, wf_in64 f1, wf_in64 f2, wf_in64 f3⟩
set_option maxRecDepth 100000 in
theorem open_lrow {w : World} {base fuel : Nat} {spare : Nat → Bool} {held : Bool} {cs : List Value} {z : DataW H × List MemPlace} (hl : cs.length = 11)
    (hf : DataW.trod enc Try.prog w base spare held fuel 41 cs = some z) : ∃ r : LRec, cs = lrL r ∧ LrOk w w.heap.size r := by
  match cs, hl with
  | [c0, c1, c2, c3, c4, c5, c6, c7, c8, c9, c10], _ =>
    obtain ⟨ys, n, _, _, _, hlen, hg⟩ := DataW.trod_struct Try.underlying41 hf
    match ys, hlen with
    | [y0, y1, y2, y3], _ =>
      have g0 := hg 0 _ rfl
      have g1 := hg 1 _ rfl
      have g2 := hg 2 _ rfl
      have g3 := hg 3 _ rfl
      simp [cellsICn, ky_cells, cellsMCn] at g0 g1 g2 g3
      obtain ⟨kd, e0, _⟩ := DataW.trod_int Try.underlying3 g0
      obtain ⟨k, e1, e2, e3, e4, hk⟩ := open_key4 g1
      obtain ⟨A, Am, mc, E, e5, e6, e7, e8, e9, h1, h2, h3, h4⟩ := open_maskCn g2
      obtain ⟨n, e10, _⟩ := DataW.trod_int Try.underlying3 g3
      simp at e0 e10
      subst e0 e1 e2 e3 e4 e5 e6 e7 e8 e9 e10
      exact ⟨⟨kd, k, A, Am, mc, E, n⟩, rfl, h3, h4, h1, h2, hk⟩
set_option maxRecDepth 100000 in
theorem open_lcall {w : World} {base : Nat} {spare : Nat → Bool} {held : Bool} {r : Reach} {b0 : Nat} {v : Value} {d : DataW H} {p : List MemPlace}
    (hv : Value.okWide Try.prog w r b0 41 v) (h : DataW.Trod enc Try.prog w base spare held 41 v d p) : ∃ r : LRec, v = .agg #[.int .i64 r.kd, .int .i64 r.k.1, .int .i64 r.k.2.1, .int .i64 r.k.2.2.1, .int .i64 r.k.2.2.2, .int .i64 r.a.x0, .int .i64 r.a.y0, .int .i64 r.a.x1, .int .i64 r.a.y1, .slice r.am r.m.length r.mc, .int .i64 r.n] ∧ LrOk w w.heap.size r := by
  obtain ⟨cs, rfl, hsz⟩ := okWide_struct Try.underlying41 hv
  obtain ⟨fuel, hf⟩ := h
  obtain ⟨r, hr, hok⟩ := open_lrow (cs := cs.toList) (by rw [Array.length_toList]; exact hsz.trans cellsLC) (by simpa [Value.cells] using hf)
  refine ⟨r, ?_, hok⟩
  have : cs = (lrL r).toArray := by rw [← hr]
  rw [this]; rfl
set_option maxRecDepth 100000 in
theorem open_lkey {w : World} {base : Nat} {spare : Nat → Bool} {held : Bool} {r : Reach} {b0 : Nat} {v : Value} {d : DataW H} {p : List MemPlace}
    (hv : Value.okWide Try.prog w r b0 39 v) (h : DataW.Trod enc Try.prog w base spare held 39 v d p) : ∃ k : Ky, v = .agg #[.int .i64 k.1, .int .i64 k.2.1, .int .i64 k.2.2.1, .int .i64 k.2.2.2] ∧ kyW k := by
  obtain ⟨⟨cs⟩, rfl, hsz⟩ := okWide_struct Try.underlying39 hv
  obtain ⟨fuel, hf⟩ := h
  have hl := hsz.trans ky_cells
  match cs, hl with
  | [c0, c1, c2, c3], _ =>
    obtain ⟨k, rfl, rfl, rfl, rfl, hk⟩ := open_key4 (c0 := c0) (c1 := c1) (c2 := c2) (c3 := c3) (by simpa [Value.cells] using hf)
    exact ⟨k, rfl, hk⟩
set_option maxRecDepth 100000 in
theorem open_lcalls {w : World} {base : Nat} {spare : Nat → Bool} {held : Bool} {r : Reach} {b0 : Nat} {v : Value} {d : DataW H} {p : List MemPlace}
    (hv : Value.okWide Try.prog w r b0 22 v) (h : DataW.Trod enc Try.prog w base spare held 22 v d p) :
    ∃ (A : Option Addr) (c : Nat) (L : List LRec), v = .slice A L.length c ∧ L.length ≤ c ∧ c ≤ 9223372036854775807 ∧ Lists w w.heap.size A (L.flatMap lrL) ∧ ∀ r ∈ L, LrOk w w.heap.size r := by
  obtain ⟨a0, len, cap, rfl⟩ := okWide_slice Try.underlying22 hv
  obtain ⟨fuel, hf⟩ := h
  rcases Deep.open_slice Try.underlying22 hf with ⟨hcs, _⟩ | ⟨a, len', cap', m, n, D, Pl, hcs, hb, hl, hm, hmm, hx, hi⟩
  · simp [Value.cells] at hcs
    obtain ⟨rfl, rfl, rfl⟩ := hcs
    exact ⟨none, 0, [], rfl, Nat.le_refl _, Nat.zero_le _, Lists.empty _ _ _, fun r hr => by simp at hr⟩
  · simp [Value.cells] at hcs
    obtain ⟨rfl, rfl, rfl⟩ := hcs
    unfold maxLen at hm
    have hlm : len ≤ m := by split at hmm <;> omega
    obtain ⟨L, hLl, hL⟩ := choose_list (n := len) (p := fun i (q : LRec) => (∀ j, j < 11 → w.cell? (a.add (i * 11 + j)) = (lrL q)[j]?) ∧ LrOk w w.heap.size q) fun i hil => by
      obtain ⟨cs', hc, ht'⟩ := hi i (by omega)
      rw [cellsLC] at hc
      obtain ⟨_, hcl, hat⟩ := World.cells?_some hc
      obtain ⟨q, rfl, hq⟩ := open_lrow hcl ht'
      exact ⟨q, fun j hj => by have := hat j hj; rw [Go.Deep.add_add] at this; exact this, hq⟩
    have hcell : ∀ j u, (L.flatMap lrL)[j]? = some u → w.cell? (a.add j) = some u := fun j u hu => by
      have hj : j < L.length * 11 := by
        rcases Nat.lt_or_ge j (L.length * 11) with h | h
        · exact h
        · rw [List.getElem?_eq_none (by rw [flat_len lrLen]; exact h)] at hu; cases hu
      obtain ⟨q, hq⟩ : ∃ q, L[j / 11]? = some q := ⟨L[j / 11]'(by omega), List.getElem?_eq_getElem _⟩
      have h3 := (hL _ _ hq).1 (j % 11) (by omega)
      have h4 : (lrL q)[j % 11]? = some ((lrL q)[j % 11]'(by rw [lrLen]; omega)) := List.getElem?_eq_getElem _
      have h5 := flat_at lrLen L (j / 11) q hq (j % 11) _ h4
      rw [show j / 11 * 11 + j % 11 = j by omega] at h3 h5
      rw [h3, h4, ← h5, hu]
    refine ⟨some a, cap, L, by rw [hLl], by omega, hm, ⟨fun ha => (nomatch ha), fun a' ha => ?_, fun a' ha hne => ?_⟩, fun r hr => ?_⟩
    · cases ha; exact hcell
    · cases ha
      have h0 : 0 < (L.flatMap lrL).length := by
        rcases Nat.eq_zero_or_pos (L.flatMap lrL).length with h | h
        · exact absurd (List.eq_nil_of_length_eq_zero h) hne
        · exact h
      have := cell_lt (hcell 0 _ (List.getElem?_eq_getElem h0))
      rwa [addr_add_block] at this
    · obtain ⟨i, hi⟩ := List.mem_iff_getElem?.1 hr
      exact (hL i r hi).2
end
end Go.Proofs.Ytaaboochologaaa
