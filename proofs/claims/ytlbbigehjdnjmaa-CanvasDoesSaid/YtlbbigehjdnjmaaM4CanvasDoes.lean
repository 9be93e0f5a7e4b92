/- Part 15 of the proof: CnY. -/
import Derived.Test.YtlbbigehjdnjmaaM3CanvasDoes

namespace Go.Proofs.Ytlbbigehjdnjmaa
open Go Go.ChangeShapes Go.WideShapes Go.ChangeAt Go.RowKit
set_option linter.unusedVariables false
set_option linter.unusedSimpArgs false
/-- A call, as it lies. -/
structure CRec where
  kd : Int
  a : Q
  am : Option Addr
  mc : Nat
  m : List Value
  d : Q
  x : Int
  y : Int
  c : Int
def crL (r : CRec) : List Value := [.int .i64 r.kd, .int .i64 r.a.x0, .int .i64 r.a.y0, .int .i64 r.a.x1, .int .i64 r.a.y1, .slice r.am r.m.length r.mc, .int .i64 r.d.x0, .int .i64 r.d.y0, .int .i64 r.d.x1, .int .i64 r.d.y1, .int .i64 r.x, .int .i64 r.y, .int .i64 r.c]
theorem crLen (r : CRec) : (crL r).length = 13 := rfl
/-- What lies behind a call's slice. -/
def CrOk (w : World) (B : Nat) (r : CRec) : Prop := Lists w B r.am r.m ∧ Bytes8 r.m ∧ r.m.length ≤ r.mc ∧ r.mc ≤ 9223372036854775807
section
variable {H : Type} {enc : TypeId × Value → H}
set_option maxRecDepth 100000 in
theorem open_crow {w : World} {base fuel : Nat} {spare : Nat → Bool} {held : Bool} {cs : List Value} {z : DataW H × List MemPlace} (hl : cs.length = 13)
    (hf : DataW.trod enc Try.prog w base spare held fuel 37 cs = some z) : ∃ r : CRec, cs = crL r ∧ CrOk w w.heap.size r := by
  match cs, hl with
  | [c0, c1, c2, c3, c4, c5, c6, c7, c8, c9, c10, c11, c12], _ =>
    obtain ⟨ys, n, _, _, _, hlen, hg⟩ := DataW.trod_struct Try.underlying37 hf
    match ys, hlen with
    | [y0, y1, y2, y3, y4, y5], _ =>
      have g0 := hg 0 _ rfl
      have g1 := hg 1 _ rfl
      have g2 := hg 2 _ rfl
      have g3 := hg 3 _ rfl
      have g4 := hg 4 _ rfl
      have g5 := hg 5 _ rfl
      simp [cellsICn, cellsBCn, cellsMCn] at g0 g1 g2 g3 g4 g5
      obtain ⟨kd, e0, _⟩ := DataW.trod_int Try.underlying3 g0
      obtain ⟨A, Am, mc, E, e1, e2, e3, e4, e5, h1, h2, h3, h4⟩ := open_maskCn g1
      obtain ⟨B, e6, e7, e8, e9⟩ := open_boxCn g2
      obtain ⟨x, e10, _⟩ := DataW.trod_int Try.underlying3 g3
      obtain ⟨y, e11, _⟩ := DataW.trod_int Try.underlying3 g4
      obtain ⟨cc, e12, _⟩ := DataW.trod_int Try.underlying3 g5
      simp at e0 e10 e11 e12
      subst e0 e1 e2 e3 e4 e5 e6 e7 e8 e9 e10 e11 e12
      exact ⟨⟨kd, A, Am, mc, E, B, x, y, cc⟩, rfl, h3, h4, h1, h2⟩
set_option maxRecDepth 100000 in
theorem open_calls {w : World} {base : Nat} {spare : Nat → Bool} {held : Bool} {r : Reach} {b0 : Nat} {v : Value} {d : DataW H} {p : List MemPlace}
    (hv : Value.okWide Try.prog w r b0 22 v) (h : DataW.Trod enc Try.prog w base spare held 22 v d p) :
    ∃ (A : Option Addr) (c : Nat) (L : List CRec), v = .slice A L.length c ∧ L.length ≤ c ∧ c ≤ 9223372036854775807 ∧ Lists w w.heap.size A (L.flatMap crL) ∧ ∀ r ∈ L, CrOk w w.heap.size r := by
  obtain ⟨a0, len, cap, rfl⟩ := okWide_slice Try.underlying22 hv
  obtain ⟨fuel, hf⟩ := h
  rcases Deep.open_slice Try.underlying22 hf with ⟨hcs, _⟩ | ⟨a, len', cap', m, n, D, Pl, hcs, hb, hl, hm, hmm, hx, hi⟩
  · simp [Value.cells] at hcs
    obtain ⟨rfl, rfl, rfl⟩ := hcs
    exact ⟨none, 0, [], rfl, Nat.le_refl _, Nat.zero_le _, Lists.empty _ _ _, fun r hr => by simp at hr⟩
  · simp [Value.cells] at hcs
    obtain ⟨rfl, rfl, rfl⟩ := hcs
    unfold maxLen at hm
    have hlm : len ≤ m := by split at hmm <;> omega
    obtain ⟨L, hLl, hL⟩ := choose_list (n := len) (p := fun i (q : CRec) => (∀ j, j < 13 → w.cell? (a.add (i * 13 + j)) = (crL q)[j]?) ∧ CrOk w w.heap.size q) fun i hil => by
      obtain ⟨cs', hc, ht'⟩ := hi i (by omega)
      rw [cellsCCn] at hc
      obtain ⟨_, hcl, hat⟩ := World.cells?_some hc
      obtain ⟨q, rfl, hq⟩ := open_crow hcl ht'
      exact ⟨q, fun j hj => by have := hat j hj; rw [Go.Deep.add_add] at this; exact this, hq⟩
    have hcell : ∀ j u, (L.flatMap crL)[j]? = some u → w.cell? (a.add j) = some u := fun j u hu => by
      have hj : j < L.length * 13 := by
        rcases Nat.lt_or_ge j (L.length * 13) with h | h
        · exact h
        · rw [List.getElem?_eq_none (by rw [flat_len crLen]; exact h)] at hu; cases hu
      obtain ⟨q, hq⟩ : ∃ q, L[j / 13]? = some q := ⟨L[j / 13]'(by omega), List.getElem?_eq_getElem _⟩
      have h3 := (hL _ _ hq).1 (j % 13) (by omega)
      have h4 : (crL q)[j % 13]? = some ((crL q)[j % 13]'(by rw [crLen]; omega)) := List.getElem?_eq_getElem _
      have h5 := flat_at crLen L (j / 13) q hq (j % 13) _ h4
      rw [show j / 13 * 13 + j % 13 = j by omega] at h3 h5
      rw [h3, h4, ← h5, hu]
    refine ⟨some a, cap, L, by rw [hLl], by omega, hm, ⟨fun ha => (nomatch ha), fun a' ha => ?_, fun a' ha hne => ?_⟩, fun r hr => ?_⟩
    · cases ha; exact hcell
    · cases ha
      have h0 : 0 < (L.flatMap crL).length := by
        rcases Nat.eq_zero_or_pos (L.flatMap crL).length with h | h
        · exact absurd (List.eq_nil_of_length_eq_zero h) hne
        · exact h
      have := cell_lt (hcell 0 _ (List.getElem?_eq_getElem h0))
      rwa [addr_add_block] at this
    · obtain ⟨i, hi⟩ := List.mem_iff_getElem?.1 hr
      exact (hL i r hi).2
end
end Go.Proofs.Ytlbbigehjdnjmaa
