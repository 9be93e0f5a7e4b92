/- Part 10 of the proof: Met1, Met2, OpenMets, Law4, CnO, CnM. -/
import Derived.Lib.Hide
import Derived.Shelf.Abstract
import Derived.Lib.SmallJoins
import Derived.Test.YtlbbigehjdnjmaaCCn8

namespace Go.Proofs.Ytlbbigehjdnjmaa
open Go Go.RowKit

/-- Is x from a to b? -/
def inB (a b x : Int) : Bool := decide (a ≤ x) && decide (x ≤ b)
theorem inB_yes {a b x : Int} (h1 : a ≤ x) (h2 : x ≤ b) : inB a b x = true := by simp [inB, h1, h2]
theorem inB_true {a b x : Int} (h : inB a b x = true) : a ≤ x ∧ x ≤ b := by simpa [inB] using h
theorem inB_false {a b x : Int} (h : inB a b x = false) : x < a ∨ b < x := by
  by_cases h1 : a ≤ x <;> by_cases h2 : x ≤ b
  · rw [inB_yes h1 h2] at h; cases h
  all_goals omega

/-- What IndexFunc answers of a list in which a predicate holds of one, or of none. -/
def Found {α : Type} (w : World) (L : List α) (p : α → Bool) (e : Ending) (w' : World) : Prop := ∃ r : Int, e = .returned (.int .i64 r) ∧ decide (0 ≤ r) = L.any p ∧ Below w.heap.size w w'
theorem any_snoc {α : Type} {L : List α} {p : α → Bool} {k : Nat} {x : α} (hx : L[k]? = some x) (h : (L.take k).any p = false) (ht : p x = false) : (L.take (k + 1)).any p = false := by
  rw [List.take_add_one, hx]
  simp only [Option.toList_some, List.any_append, h, List.any_cons, ht, List.any_nil, Bool.or_self]
theorem any_yes {α : Type} {L : List α} {p : α → Bool} {k : Nat} {x : α} (hx : L[k]? = some x) (ht : p x = true) : L.any p = true := by
  rw [List.any_eq_true]
  exact ⟨x, List.mem_of_getElem? hx, ht⟩

end Go.Proofs.Ytlbbigehjdnjmaa

namespace Go.Proofs.Ytlbbigehjdnjmaa
open Go Go.RowKit

/-- May n glyphs be, m of which have an advance of their own? -/
def cmB (n m : Int) : Bool := inB 1 65535 n && inB 1 n m
theorem cmB_true {n m : Int} (h : cmB n m = true) : 1 ≤ n ∧ n ≤ 65535 ∧ 1 ≤ m ∧ m ≤ n := by
  unfold cmB at h
  rw [Bool.and_eq_true] at h
  have := inB_true h.1
  have := inB_true h.2
  omega
theorem cmB_yes {n m : Int} (h1 : 1 ≤ n) (h2 : n ≤ 65535) (h3 : 1 ≤ m) (h4 : m ≤ n) : cmB n m = true := by
  unfold cmB; rw [inB_yes h1 h2, inB_yes h3 h4]; rfl

/-- Metrics as cells. -/
def metCells : List (Int × Int) → List Value
  | [] => []
  | (a, b) :: r => .int .i64 a :: .int .i64 b :: metCells r
theorem metCells_len : ∀ L : List (Int × Int), (metCells L).length = L.length * 2
  | [] => rfl
  | _ :: r => by simp only [metCells, List.length_cons, metCells_len r]; omega
theorem metCells_snoc (a b : Int) : ∀ L, metCells (L ++ [(a, b)]) = metCells L ++ [.int .i64 a, .int .i64 b]
  | [] => rfl
  | (_, _) :: r => by simp only [List.cons_append, metCells, metCells_snoc a b r]
theorem metCells_at : ∀ (L : List (Int × Int)) (k : Nat) (a b : Int), L[k]? = some (a, b) → (metCells L)[k * 2]? = some (.int .i64 a) ∧ (metCells L)[k * 2 + 1]? = some (.int .i64 b)
  | [], k, a, b, h => by simp at h
  | (x, y) :: r, 0, a, b, h => by
    simp only [List.getElem?_cons_zero, Option.some.injEq, Prod.mk.injEq] at h
    obtain ⟨rfl, rfl⟩ := h
    exact ⟨rfl, rfl⟩
  | (x, y) :: r, k + 1, a, b, h => by
    have := metCells_at r k a b (by simpa using h)
    rw [show (k + 1) * 2 = k * 2 + 1 + 1 by omega]
    exact this
theorem metCells_one : ∀ L : List (Int × Int), ∀ u ∈ metCells L, u.oneCell' = true
  | [], u, h => (nomatch h)
  | (x, y) :: r, u, h => by
    simp only [metCells, List.mem_cons] at h
    rcases h with rfl | rfl | h
    · rfl
    · rfl
    · exact metCells_one r u h

end Go.Proofs.Ytlbbigehjdnjmaa

namespace Go.Proofs.Ytlbbigehjdnjmaa
open Go.ChangeShapes Go.WideShapes Go.ChangeAt Go.RowKit

theorem choose_list {α : Type} {p : Nat → α → Prop} : ∀ {n : Nat}, (∀ i, i < n → ∃ x, p i x) → ∃ L : List α, L.length = n ∧ ∀ i x, L[i]? = some x → p i x
  | 0, _ => ⟨[], rfl, fun i x h => by simp at h⟩
  | n + 1, h => by
    obtain ⟨L, h1, h2⟩ := choose_list (n := n) fun i hi => h i (by omega)
    obtain ⟨x, hx⟩ := h n (by omega)
    refine ⟨L ++ [x], by simp [h1], fun i y hy => ?_⟩
    rcases Nat.lt_or_ge i n with hi | hi
    · rw [List.getElem?_append_left (by omega)] at hy
      exact h2 i y hy
    · rw [List.getElem?_append_right (by omega)] at hy
      have h3 : i - L.length = 0 := by
        rcases Nat.eq_zero_or_pos (i - L.length) with h | h
        · exact h
        · rw [List.getElem?_eq_none (by simp; omega)] at hy; cases hy
      rw [h3] at hy
      cases hy
      rw [show i = n by omega]
      exact hx

section
variable {H : Type} {enc : TypeId × Value → H} {P : Program}
theorem open_bytes {w : World} {t e : TypeId} {base : Nat} {spare : Nat → Bool} {held : Bool} {r : Reach} {b0 : Nat} {v : Value} {d : DataW H} {p : List MemPlace}
    (hs : P.underlying t = some (.slice e)) (he : P.underlying e = some (.int .u8)) (hC : P.cellsOf e = 1) (hb : P.bytesOf e = 1)
    (hv : Value.okWide P w r b0 t v) (h : DataW.Trod enc P w base spare held t v d p) (hz : ∀ m ∈ d.weights P t, m ≤ reachBytes) :
    ∃ (A : Option Addr) (c : Nat) (E : List Value), v = .slice A E.length c ∧ E.length ≤ c ∧ c ≤ 9223372036854775807 ∧ Lists w w.heap.size A E ∧ Bytes8 E ∧ E.length ≤ 140737488355328 := by
  obtain ⟨a0, len, cap, rfl⟩ := okWide_slice hs hv
  obtain ⟨fuel, hf⟩ := h
  rw [show (Value.slice a0 len cap).cells = #[.slice a0 len cap] from rfl] at hf
  obtain ⟨A, n, c, zs, hv1, hlen, hnc, hcm, hL, hwf, hw⟩ := open_nums hs he hC hf
  have h1 := hw reachBytes hz
  rw [hb] at h1
  have hr := reachBytes_lt
  unfold maxLen at hcm
  refine ⟨A, c, zs.map (Value.int .u8), by rw [List.length_map, hlen]; exact hv1, by rw [List.length_map]; omega, hcm, hL, bytes_of_wf hwf, by rw [List.length_map]; omega⟩

theorem open_mets {w : World} {t e : TypeId} {f0 f1 : Field} {base : Nat} {spare : Nat → Bool} {held : Bool} {r : Reach} {b0 : Nat} {v : Value} {d : DataW H} {p : List MemPlace}
    (ht : P.underlying t = some (.slice e)) (he : P.underlying e = some (.struct #[f0, f1])) (hone : Deep.oneCellFields P #[f0, f1] = true) (hC : P.cellsOf e = 2)
    (i0 : P.underlying f0.type = some (.int .i64)) (i1 : P.underlying f1.type = some (.int .i64))
    (hv : Value.okWide P w r b0 t v) (h : DataW.Trod enc P w base spare held t v d p) :
    ∃ (A : Option Addr) (c : Nat) (L : List (Int × Int)), v = .slice A L.length c ∧ L.length ≤ c ∧ c ≤ 9223372036854775807 ∧ Lists w w.heap.size A (metCells L) := by
  obtain ⟨a0, len, cap, rfl⟩ := okWide_slice ht hv
  obtain ⟨fuel, hf⟩ := h
  rcases Deep.open_slice ht hf with ⟨hcs, _⟩ | ⟨a, len', cap', m, n, D, Pl, hcs, hb, hl, hm, hmm, hx, hi⟩
  · simp [Value.cells] at hcs
    obtain ⟨rfl, rfl, rfl⟩ := hcs
    exact ⟨none, 0, [], rfl, Nat.le_refl _, Nat.zero_le _, Lists.empty _ _ _⟩
  · simp [Value.cells] at hcs
    obtain ⟨rfl, rfl, rfl⟩ := hcs
    unfold maxLen at hm
    have hlm : len ≤ m := by split at hmm <;> omega
    obtain ⟨L, hLl, hL⟩ := choose_list (n := len) (p := fun i (q : Int × Int) => w.cell? (a.add (i * 2)) = some (.int .i64 q.1) ∧ w.cell? (a.add (i * 2 + 1)) = some (.int .i64 q.2)) fun i hil => by
      obtain ⟨cs', hc, ht'⟩ := hi i (by omega)
      rw [hC] at hc
      obtain ⟨ys, n', _, hy, _, hyl, hg⟩ := DataW.trod_struct he ht'
      obtain ⟨_, hcl, hat⟩ := World.cells?_some hc
      match cs', hcl with
      | [c0, c1], _ =>
        match ys, hyl with
        | [y0, y1], _ =>
          have k0 := one_of hone hg (j := 0) rfl rfl rfl
          have k1 := one_of hone hg (j := 1) rfl rfl rfl
          obtain ⟨z0, e0, _, _⟩ := DataW.trod_int i0 k0
          obtain ⟨z1, e1, _, _⟩ := DataW.trod_int i1 k1
          simp only [List.cons.injEq, and_true] at e0 e1
          subst e0 e1
          have a0 : w.cell? (a.add (i * 2)) = some (.int .i64 z0) := by have := hat 0 (by omega); rw [Go.Deep.add_add] at this; exact this
          have a1 : w.cell? (a.add (i * 2 + 1)) = some (.int .i64 z1) := by have := hat 1 (by omega); rw [Go.Deep.add_add] at this; exact this
          exact ⟨(z0, z1), a0, a1⟩
    have hcell : ∀ j u, (metCells L)[j]? = some u → w.cell? (a.add j) = some u := fun j u hu => by
      have hj : j < L.length * 2 := by
        rcases Nat.lt_or_ge j (L.length * 2) with h | h
        · exact h
        · rw [List.getElem?_eq_none (by rw [metCells_len]; exact h)] at hu; cases hu
      obtain ⟨q, hq⟩ : ∃ q, L[j / 2]? = some q := ⟨L[j / 2]'(by omega), List.getElem?_eq_getElem _⟩
      obtain ⟨h1, h2⟩ := metCells_at L (j / 2) q.1 q.2 hq
      obtain ⟨h3, h4⟩ := hL _ _ hq
      rcases Nat.mod_two_eq_zero_or_one j with h | h
      · rw [show j / 2 * 2 = j by omega] at h1 h3
        rw [h1] at hu; cases hu; exact h3
      · rw [show j / 2 * 2 + 1 = j by omega] at h2 h4
        rw [h2] at hu; cases hu; exact h4
    refine ⟨some a, cap, L, by rw [hLl], by omega, hm, ⟨fun ha => (nomatch ha), fun a' ha => ?_, fun a' ha hne => ?_⟩⟩
    · cases ha; exact hcell
    · cases ha
      have h0 : 0 < (metCells L).length := by
        rcases Nat.eq_zero_or_pos (metCells L).length with h | h
        · exact absurd (List.eq_nil_of_length_eq_zero h) hne
        · exact h
      have := cell_lt (hcell 0 _ (List.getElem?_eq_getElem h0))
      rwa [addr_add_block] at this
end

end Go.Proofs.Ytlbbigehjdnjmaa

namespace Go.Proofs.Ytlbbigehjdnjmaa
open Go.ChangeShapes Go.WideShapes Go.ChangeAt Go.RowKit Go.Deep

section
variable {H : Type} {enc : TypeId × Value → H} {P : Program}
theorem open_four {w : World} {t : TypeId} {f0 f1 f2 f3 : Field} {base : Nat} {spare : Nat → Bool} {held : Bool} {r : Reach} {b0 : Nat} {v : Value} {d : DataW H} {p : List MemPlace}
    (hs : P.underlying t = some (.struct #[f0, f1, f2, f3])) (hone : oneCellFields P #[f0, f1, f2, f3] = true) (hC : P.cellsOf t = 4)
    (u0 : P.underlying f0.type = some (.int .i64)) (u1 : P.underlying f1.type = some (.int .i64)) (u2 : P.underlying f2.type = some (.int .i64)) (u3 : P.underlying f3.type = some (.int .i64))
    (hv : Value.okWide P w r b0 t v) (h : DataW.Trod enc P w base spare held t v d p) :
    ∃ a b c e : Int, v = .agg #[.int .i64 a, .int .i64 b, .int .i64 c, .int .i64 e] ∧ (Lit.int .i64 a).wf = true ∧ (Lit.int .i64 b).wf = true ∧ (Lit.int .i64 c).wf = true ∧ (Lit.int .i64 e).wf = true := by
  obtain ⟨v0, v1, v2, v3, y0, y1, y2, y3, n, rfl, _, _, h0, h1, h2, h3⟩ := Joins.open_agg4 hs hone hC hv h
  obtain ⟨a, e0, _, wa⟩ := DataW.trod_int u0 h0
  obtain ⟨b, e1, _, wb⟩ := DataW.trod_int u1 h1
  obtain ⟨c, e2, _, wc⟩ := DataW.trod_int u2 h2
  obtain ⟨e, e3, _, we⟩ := DataW.trod_int u3 h3
  simp at e0 e1 e2 e3
  subst e0 e1 e2 e3
  exact ⟨a, b, c, e, rfl, wa, wb, wc, we⟩
end

theorem Try.cellsB : Try.prog.cellsOf 32 = 4 := by kernel_rfl

end Go.Proofs.Ytlbbigehjdnjmaa

namespace Go.Proofs.Ytlbbigehjdnjmaa
open Go Go.ChangeShapes Go.WideShapes Go.ChangeAt Go.RowKit
theorem cellsICn : Try.prog.cellsOf 3 = 1 := by kernel_rfl
theorem cellsBCn : Try.prog.cellsOf 32 = 4 := by kernel_rfl
theorem cellsMCn : Try.prog.cellsOf 35 = 5 := by kernel_rfl
theorem cellsSCn : Try.prog.cellsOf 33 = 1 := by kernel_rfl
theorem cellsCCn : Try.prog.cellsOf 37 = 13 := by kernel_rfl
theorem array_13Cn {α : Type} {cs : Array α} (h : cs.size = 13) : ∃ c0 c1 c2 c3 c4 c5 c6 c7 c8 c9 c10 c11 c12, cs = #[c0, c1, c2, c3, c4, c5, c6, c7, c8, c9, c10, c11, c12] := by
  obtain ⟨l⟩ := cs
  match l, h with
  | [c0, c1, c2, c3, c4, c5, c6, c7, c8, c9, c10, c11, c12], _ => exact ⟨c0, c1, c2, c3, c4, c5, c6, c7, c8, c9, c10, c11, c12, rfl⟩
section
variable {H : Type} {enc : TypeId × Value → H}
set_option maxRecDepth 100000 in
theorem open_boxCn {w : World} {base fuel : Nat} {spare : Nat → Bool} {held : Bool} {c0 c1 c2 c3 : Value} {x : DataW H × List MemPlace}
    (h : DataW.trod enc Try.prog w base spare held fuel 32 [c0, c1, c2, c3] = some x) : ∃ A : Q, c0 = .int .i64 A.x0 ∧ c1 = .int .i64 A.y0 ∧ c2 = .int .i64 A.x1 ∧ c3 = .int .i64 A.y1 := by
  obtain ⟨zs, m, _, _, _, hlen2, hb⟩ := DataW.trod_struct Try.underlying32 h
  match zs, hlen2 with
  | [z0, z1, z2, z3], _ =>
    have k0 := hb 0 _ rfl
    have k1 := hb 1 _ rfl
    have k2 := hb 2 _ rfl
    have k3 := hb 3 _ rfl
    simp [cellsICn] at k0 k1 k2 k3
    obtain ⟨a0, e0, _⟩ := DataW.trod_int Try.underlying3 k0
    obtain ⟨a1, e1, _⟩ := DataW.trod_int Try.underlying3 k1
    obtain ⟨a2, e2, _⟩ := DataW.trod_int Try.underlying3 k2
    obtain ⟨a3, e3, _⟩ := DataW.trod_int Try.underlying3 k3
    simp at e0 e1 e2 e3
    exact ⟨⟨a0, a1, a2, a3⟩, e0, e1, e2, e3⟩
set_option maxRecDepth 100000 in
theorem open_maskCn {w : World} {base fuel : Nat} {spare : Nat → Bool} {held : Bool} {c0 c1 c2 c3 c4 : Value} {x : DataW H × List MemPlace}
    (h : DataW.trod enc Try.prog w base spare held fuel 35 [c0, c1, c2, c3, c4] = some x) : ∃ (A : Q) (Am : Option Addr) (mc : Nat) (E : List Value), c0 = .int .i64 A.x0 ∧ c1 = .int .i64 A.y0 ∧ c2 = .int .i64 A.x1 ∧ c3 = .int .i64 A.y1 ∧ c4 = .slice Am E.length mc ∧ E.length ≤ mc ∧ mc ≤ 9223372036854775807 ∧ Lists w w.heap.size Am E ∧ Bytes8 E := by
  obtain ⟨zs, m, _, _, _, hlen2, hb⟩ := DataW.trod_struct Try.underlying35 h
  match zs, hlen2 with
  | [z0, z1], _ =>
    have k0 := hb 0 _ rfl
    have k1 := hb 1 _ rfl
    simp [cellsBCn, cellsSCn] at k0 k1
    obtain ⟨A, e0, e1, e2, e3⟩ := open_boxCn k0
    obtain ⟨Am, n, c, ns, hv1, hlen, hnc, hcm, hL, hwf, hw⟩ := open_nums Try.underlying33 Try.underlying5 (by kernel_rfl) k1
    unfold maxLen at hcm
    refine ⟨A, Am, c, ns.map (Value.int .u8), e0, e1, e2, e3, ?_, by rw [List.length_map]; omega, hcm, hL, bytes_of_wf hwf⟩
    rw [List.length_map, hlen]
    first | exact hv1 | (simp at hv1; exact hv1)
set_option maxRecDepth 100000 in
theorem open_call {w : World} {base : Nat} {spare : Nat → Bool} {held : Bool} {r : Reach} {b0 : Nat} {v : Value} {d : DataW H} {p : List MemPlace}
    (hv : Value.okWide Try.prog w r b0 37 v) (h : DataW.Trod enc Try.prog w base spare held 37 v d p) :
    ∃ (kd : Int) (A : Q) (Am : Option Addr) (mc : Nat) (E : List Value) (B : Q) (x y cc : Int), v = .agg #[.int .i64 kd, .int .i64 A.x0, .int .i64 A.y0, .int .i64 A.x1, .int .i64 A.y1, .slice Am E.length mc, .int .i64 B.x0, .int .i64 B.y0, .int .i64 B.x1, .int .i64 B.y1, .int .i64 x, .int .i64 y, .int .i64 cc] ∧ E.length ≤ mc ∧ mc ≤ 9223372036854775807 ∧ Lists w w.heap.size Am E ∧ Bytes8 E := by
  obtain ⟨cs, rfl, hsz⟩ := okWide_struct Try.underlying37 hv
  obtain ⟨c0, c1, c2, c3, c4, c5, c6, c7, c8, c9, c10, c11, c12, rfl⟩ := array_13Cn (hsz.trans cellsCCn)
  obtain ⟨fuel, hf⟩ := h
  obtain ⟨ys, n, _, _, _, hlen, hg⟩ := DataW.trod_struct Try.underlying37 hf
  match ys, hlen with
  | [y0, y1, y2, y3, y4, y5], _ =>
    have g0 := hg 0 _ rfl
    have g1 := hg 1 _ rfl
    have g2 := hg 2 _ rfl
    have g3 := hg 3 _ rfl
    have g4 := hg 4 _ rfl
    have g5 := hg 5 _ rfl
    simp [Value.cells, cellsICn, cellsBCn, cellsMCn] at g0 g1 g2 g3 g4 g5
    obtain ⟨kd, e0, _⟩ := DataW.trod_int Try.underlying3 g0
    obtain ⟨A, Am, mc, E, e1, e2, e3, e4, e5, h1, h2, h3, h4⟩ := open_maskCn g1
    obtain ⟨B, e6, e7, e8, e9⟩ := open_boxCn g2
    obtain ⟨x, e10, _⟩ := DataW.trod_int Try.underlying3 g3
    obtain ⟨y, e11, _⟩ := DataW.trod_int Try.underlying3 g4
    obtain ⟨cc, e12, _⟩ := DataW.trod_int Try.underlying3 g5
    simp at e0 e10 e11 e12
    subst e0 e1 e2 e3 e4 e5 e6 e7 e8 e9 e10 e11 e12
    exact ⟨kd, A, Am, mc, E, B, x, y, cc, rfl, h1, h2, h3, h4⟩
end
end Go.Proofs.Ytlbbigehjdnjmaa

namespace Go.Proofs.Ytlbbigehjdnjmaa
open Go Go.RowKit
set_option linter.unusedVariables false
set_option linter.unusedSimpArgs false

/-- The error by which Blend refuses. -/
def blCode (A : Q) (n : Nat) (x y c : Int) : Int := if chkB A n = false then 220 else if inZ 0 255 c = false then 1 else if (inZ (-1048576) 1048576 x && inZ (-1048576) 1048576 y) = false then 10 else 0
def blBox (wd ht : Nat) (A : Q) (n : Nat) (x y c : Int) : Q := if blCode A n x y c = 0 then meetC wd ht (shS A x y) else zeroQ
def blAll (wd ht : Nat) (A : Q) (M : List Value) (x y c : Int) (E : List Value) : List Value := if blCode A M.length x y c = 0 then blnE wd ht A M x y c E else E
theorem blCode_zero {A : Q} {n : Nat} {x y c : Int} (h : blCode A n x y c = 0) : chkB A n = true ∧ inZ 0 255 c = true ∧ (inZ (-1048576) 1048576 x && inZ (-1048576) 1048576 y) = true := by
  unfold blCode at h
  split at h
  · cases h
  · split at h
    · cases h
    · split at h
      · cases h
      · rename_i h1 h2 h3
        exact ⟨by simpa using h1, by simpa using h2, by simpa using h3⟩
theorem cnblend_all (q g wd ht mc : Nat) (E : List Value) (A : Q) (Am : Option Addr) (M : List Value) (x y c : Int) (w : World) (h : CnV w q g wd ht E) (hl : Lists w w.heap.size Am M) (hM8 : Bytes8 M) (hmc : M.length ≤ mc) (hsep : ∀ a, Am = some a → M ≠ [] → a.block ≠ g) :
    Calls Try.prog 18 #[.pointer (some ⟨q, 0, none⟩), .agg #[.int .i64 A.x0, .int .i64 A.y0, .int .i64 A.x1, .int .i64 A.y1, .slice Am M.length mc], .int .i64 x, .int .i64 y, .int .i64 c] w fun e w' => e = .returned (.tuple #[.agg (qV (blBox wd ht A M.length x y c)), .int .i64 (blCode A M.length x y c)]) ∧ CnV w' q g wd ht (blAll wd ht A M x y c E) ∧ Only w w' [g] := by
  cases hk : chkB A M.length
  · have e1 : blCode A M.length x y c = 220 := by unfold blCode; rw [if_pos hk]
    unfold blBox blAll
    rw [e1, if_neg (by decide), if_neg (by decide)]
    exact (cnblend_mask q A Am M.length mc x y c hk w).mono fun e w' ⟨h1, b⟩ => ⟨h1, h.below b, Only.of_below b _⟩
  · cases hc : inZ 0 255 c
    · have e1 : blCode A M.length x y c = 1 := by unfold blCode; rw [if_neg (by simp [hk]), if_pos hc]
      unfold blBox blAll
      rw [e1, if_neg (by decide), if_neg (by decide)]
      exact (cnblend_arg q A Am M.length mc x y c hk hc w).mono fun e w' ⟨h1, b⟩ => ⟨h1, h.below b, Only.of_below b _⟩
    · cases hxy : (inZ (-1048576) 1048576 x && inZ (-1048576) 1048576 y)
      · have e1 : blCode A M.length x y c = 10 := by unfold blCode; rw [if_neg (by simp [hk]), if_neg (by simp [hc]), if_pos hxy]
        unfold blBox blAll
        rw [e1, if_neg (by decide), if_neg (by decide)]
        exact (cnblend_over q A Am M.length mc x y c hk hc hxy w).mono fun e w' ⟨h1, b⟩ => ⟨h1, h.below b, Only.of_below b _⟩
      · have e1 : blCode A M.length x y c = 0 := by unfold blCode; rw [if_neg (by simp [hk]), if_neg (by simp [hc]), if_neg (by simp [hxy])]
        unfold blBox blAll
        rw [e1, if_pos rfl, if_pos rfl]
        exact cnblend_ok q g wd ht mc E A Am M x y c w h hl hM8 hmc hk hxy hc hsep
/-- Is a place in a box? -/
def inQ (R : Q) (x y : Int) : Bool := decide (R.x0 ≤ x) && decide (x < R.x1) && decide (R.y0 ≤ y) && decide (y < R.y1)
theorem inQ_zero (x y : Nat) : inQ zeroQ x y = false := by
  have h : decide ((x : Int) < zeroQ.x1) = false := by
    simp only [decide_eq_false_iff_not]
    show ¬ (x : Int) < 0
    omega
  unfold inQ
  rw [h]
  simp
theorem inQ_shift (A : Q) (X Y x y : Int) : inQ (shiftQ A X Y) x y = inQ A (x - X) (y - Y) := by
  have e1 : decide (A.x0 + X ≤ x) = decide (A.x0 ≤ x - X) := by rw [decide_eq_decide]; omega
  have e2 : decide (x < A.x1 + X) = decide (x - X < A.x1) := by rw [decide_eq_decide]; omega
  have e3 : decide (A.y0 + Y ≤ y) = decide (A.y0 ≤ y - Y) := by rw [decide_eq_decide]; omega
  have e4 : decide (y < A.y1 + Y) = decide (y - Y < A.y1) := by rw [decide_eq_decide]; omega
  show (decide (A.x0 + X ≤ x) && decide (x < A.x1 + X) && decide (A.y0 + Y ≤ y) && decide (y < A.y1 + Y)) = _
  rw [e1, e2, e3, e4]
  rfl
theorem put_get (wd ht : Nat) (B : Q) (f : Nat → Nat → Value → Value) (E : List Value) (hd : 1 ≤ wd ∧ 1 ≤ ht) (x y : Nat) (hx : x < wd) (hy : y < ht) : (cnputE wd ht B f E)[y * wd + x]? = E[y * wd + x]?.map fun d => if inQ (meetC wd ht B) x y then f y (y * wd + x) d else d := by
  obtain ⟨X0, Y0, X1, Y1, hR, hX, hY, hin, hmem⟩ := meet_cn wd ht B hd
  rw [cnputE_eq hR, rowsR_get wd X0 X1 Y0 f E hX.2.1, show meetC wd ht B = ⟨X0, Y0, X1, Y1⟩ from hR]
  have e1 : (y * wd + x) / wd = y := by rw [Nat.mul_comm, Nat.mul_add_div (by omega), Nat.div_eq_of_lt hx, Nat.add_zero]
  have e2 : (y * wd + x) % wd = x := by rw [Nat.mul_comm, Nat.mul_add_mod, Nat.mod_eq_of_lt hx]
  rw [e1, e2]
  congr 1
  funext d
  by_cases hc : (Y0 ≤ y ∧ y < Y0 + (Y1 - Y0)) ∧ X0 ≤ x ∧ x < X1
  · rw [if_pos hc, if_pos (by simp [inQ]; omega)]
  · rw [if_neg hc, if_neg (by simp [inQ]; omega)]
theorem inQ_meet {wd ht : Nat} (B : Q) (hd : 1 ≤ wd ∧ 1 ≤ ht) {x y : Nat} (hx : x < wd) (hy : y < ht) : inQ (meetC wd ht B) x y = inQ B x y := by
  obtain ⟨X0, Y0, X1, Y1, hR, hX, hY, hin, hmem⟩ := meet_cn wd ht B hd
  rw [show meetC wd ht B = ⟨X0, Y0, X1, Y1⟩ from hR]
  have h := hmem x y hx hy
  rw [Bool.eq_iff_iff]
  simp only [inQ, Bool.and_eq_true, decide_eq_true_eq]
  omega
theorem idx_lt {wd ht x y : Nat} (hx : x < wd) (hy : y < ht) : y * wd + x < wd * ht := by
  have h1 : (y + 1) * wd ≤ ht * wd := Nat.mul_le_mul_right wd hy
  rw [Nat.add_mul, Nat.one_mul, Nat.mul_comm ht wd] at h1
  omega
/-- Where in a mask's bytes a place of its box is. -/
def ixM (A : Q) (x y : Int) : Nat := ((y - A.y0) * (A.x1 - A.x0) + x - A.x0).toNat
theorem bl_get (wd ht : Nat) (A : Q) (M : List Value) (X Y c : Int) (E : List Value) (hd : 1 ≤ wd ∧ 1 ≤ ht) (x y : Nat) (hx : x < wd) (hy : y < ht) : (blAll wd ht A M X Y c E)[y * wd + x]? = E[y * wd + x]?.map fun d => if inQ (blBox wd ht A M.length X Y c) x y then .int .u8 (mixZ (ub d) c (ub (M.getD (ixM A (x - X) (y - Y)) (.int .u8 0)))) else d := by
  unfold blAll blBox
  by_cases hz : blCode A M.length X Y c = 0
  · rw [if_pos hz, if_pos hz]
    unfold blnE
    rw [put_get wd ht _ _ E hd x y hx hy]
    congr 1
    funext d
    by_cases hq : inQ (meetC wd ht (shS A X Y)) x y = true
    · rw [if_pos hq, if_pos hq]
      have hq2 := hq
      rw [inQ_meet _ hd hx hy] at hq2
      have he : emptyQ A = false := by
        cases he : emptyQ A
        · rfl
        · unfold shS at hq2
          rw [he, if_pos rfl, inQ_zero] at hq2
          cases hq2
      have hs : shS A X Y = shiftQ A X Y := by unfold shS; rw [he]; rfl
      have hlim := empty_lims he
      unfold blF blnF ixM
      rw [hs]
      simp only [shiftQ]
      have e1 : y * wd + x - y * wd = x := by omega
      rw [e1]
      have e2 : (((A.x1 + X - (A.x0 + X)).toNat : Nat) : Int) = A.x1 - A.x0 := by omega
      rw [e2]
      have e3 : (y : Int) - (A.y0 + Y) = (y : Int) - Y - A.y0 := by omega
      rw [e3]
      generalize ((y : Int) - Y - A.y0) * (A.x1 - A.x0) = p
      rw [show p + (x : Int) - (A.x0 + X) = p + ((x : Int) - X) - A.x0 by omega]
    · rw [if_neg hq, if_neg hq]
  · rw [if_neg hz, if_neg hz]
    have : ∀ d, (if inQ zeroQ x y = true then Value.int .u8 (mixZ (ub d) c (ub (M.getD (ixM A (x - X) (y - Y)) (.int .u8 0)))) else d) = d := fun d => by
      rw [inQ_zero, if_neg (by simp)]
    simp only [this]
    simp
theorem bl_len (wd ht : Nat) (A : Q) (M : List Value) (X Y c : Int) (E : List Value) : (blAll wd ht A M X Y c E).length = E.length := by
  unfold blAll
  split
  · unfold blnE cnputE; rw [rowsR_len]
  · rfl
set_option maxRecDepth 100000 in
set_option maxHeartbeats 1000000 in
theorem rat23_any (A : Q) (Am : Option Addr) (mc : Nat) (M : List Value) (x y : Int) (w : World) (hl : Lists w w.heap.size Am M) (hM8 : Bytes8 M) (hk : chkB A M.length = true) (hin : inQ A x y = true) :
    Calls Try.prog 19 #[.agg #[.int .i64 A.x0, .int .i64 A.y0, .int .i64 A.x1, .int .i64 A.y1, .slice Am M.length mc], .int .i64 x, .int .i64 y] w fun e w' => e = .returned (.int .i64 (ub (M.getD (ixM A x y) (.int .u8 0)))) ∧ Below w.heap.size w w' := by
  have he : emptyQ A = false := by
    cases he : emptyQ A
    · rfl
    · simp [inQ, emptyQ] at hin he; omega
  have h4 := chk_in4 hk
  have p4 := prod4 h4 he
  have h5 := in4_lims h4
  have ha := chk_area hk
  unfold areaQ at ha
  rw [he] at ha
  simp only [Bool.false_eq_true, if_false] at ha
  simp only [inQ, Bool.and_eq_true, decide_eq_true_eq] at hin
  obtain ⟨⟨⟨g0, g1⟩, g2⟩, g3⟩ := hin
  have hp1 : (y - A.y0 + 1) * (A.x1 - A.x0) ≤ (A.y1 - A.y0) * (A.x1 - A.x0) := Int.mul_le_mul_of_nonneg_right (by omega) (by omega)
  rw [Int.add_mul, Int.one_mul, Int.mul_comm (A.y1 - A.y0), ha.1] at hp1
  have hp0 : 0 ≤ (y - A.y0) * (A.x1 - A.x0) := Int.mul_nonneg (by omega) (by omega)
  obtain ⟨p, hp⟩ : ∃ p, p = (y - A.y0) * (A.x1 - A.x0) := ⟨_, rfl⟩
  unfold ixM
  rw [← hp] at hp1 hp0 ⊢
  obtain ⟨k, hk2⟩ : ∃ k : Nat, p + x - A.x0 = (k : Nat) := ⟨(p + x - A.x0).toNat, by omega⟩
  rw [hk2, Int.toNat_natCast]
  have hkl : k < M.length := by omega
  obtain ⟨v, hv⟩ : ∃ v, M[k]? = some v := ⟨_, List.getElem?_eq_getElem hkl⟩
  have hv8 := b8_in (hM8 v (List.mem_of_getElem? hv))
  rw [List.getD_eq_getElem?_getD, hv, Option.getD_some]
  obtain ⟨mb, mo, rfl, hlt, hcell⟩ := hl.plain (by rintro rfl; simp at hkl)
  have hc0 := hcell k v hv
  obtain ⟨ev, hvi⟩ := hv8
  rw [ev] at hc0
  obtain ⟨v1, v2⟩ := inB_in hvi
  obtain ⟨n, hn⟩ : ∃ n, n = M.length := ⟨_, rfl⟩
  rw [← hn] at hkl ⊢
  obtain ⟨W2, hW2⟩ : ∃ W2, W2 = ((w.alloc (.cells #[.int .i64 A.x0, .int .i64 A.y0, .int .i64 A.x1, .int .i64 A.y1, .slice (some ⟨mb, mo, none⟩) n mc] 35)).alloc (.cells #[.int .i64 0, .int .i64 0, .int .i64 0, .int .i64 0] 32)) := ⟨_, rfl⟩
  have K0 := (Blk.new w 35 #[.int .i64 A.x0, .int .i64 A.y0, .int .i64 A.x1, .int .i64 A.y1, .slice (some ⟨mb, mo, none⟩) n mc]).below (below_a1 _ (.cells #[.int .i64 0, .int .i64 0, .int .i64 0, .int .i64 0] 32))
  have J0 := Blk.new (w.alloc (.cells #[.int .i64 A.x0, .int .i64 A.y0, .int .i64 A.x1, .int .i64 A.y1, .slice (some ⟨mb, mo, none⟩) n mc] 35)) 32 #[.int .i64 0, .int .i64 0, .int .i64 0, .int .i64 0]
  rw [World.size_alloc] at J0
  have B0 : Below w.heap.size w W2 := by rw [hW2]; exact below_a2 _ _ _
  rw [← hW2] at K0 J0
  have HJ0 := Lib.hid J0
  have J := blk_row J0 #[.int .i64 A.x0, .int .i64 A.y0, .int .i64 A.x1, .int .i64 A.y1]
  have o := only_row (g := w.heap.size + 1) (Only.refl W2 [w.heap.size + 1]) (.inl (by simp)) #[.int .i64 A.x0, .int .i64 A.y0, .int .i64 A.x1, .int .i64 A.y1]
  have K := K0.only o (by simp)
  have B := below_setRow (g := w.heap.size + 1) B0 (Nat.le_succ _) #[.int .i64 A.x0, .int .i64 A.y0, .int .i64 A.x1, .int .i64 A.y1]
  have hc : (W2.setRow (w.heap.size + 1) #[.int .i64 A.x0, .int .i64 A.y0, .int .i64 A.x1, .int .i64 A.y1]).cell? ⟨mb, mo + k, none⟩ = some (.int .u8 (ub v)) := (B.cell (p := ⟨mb, mo + k, none⟩) hlt).trans hc0
  have hml := Nat.lt_of_lt_of_le hlt B.size
  have k0 := K.cell 0; have k1 := K.cell 1; have k2 := K.cell 2; have k3 := K.cell 3; have k4 := K.cell 4; have kl := K.lt; simp only [List.getElem?_toArray, List.getElem?_cons_succ, List.getElem?_cons_zero] at k0 k1 k2 k3 k4; have j0 := J.cell 0; have j1 := J.cell 1; have j2 := J.cell 2; have j3 := J.cell 3; have jl := J.lt; simp only [List.getElem?_toArray, List.getElem?_cons_succ, List.getElem?_cons_zero] at j0 j1 j2 j3
  have E1 := Lib.hid (show wrap64 (y - A.y0) = y - A.y0 from by unfold wrap64; omega)
  have E2 := Lib.hid (show wrap64 (A.x1 - A.x0) = A.x1 - A.x0 from by unfold wrap64; omega)
  have E3 := Lib.hid (show wrap64 ((y - A.y0) * (A.x1 - A.x0)) = p from by rw [← hp]; unfold wrap64; omega)
  have E4 := Lib.hid (show wrap64 (p + x) = p + x from by unfold wrap64; omega)
  have E5 := Lib.hid (show wrap64 (p + x - A.x0) = (k : Int) from by rw [hk2]; exact w64n (by omega) (by omega))
  have HB := Lib.hid B
  subst hW2
  clear K0 J0 o B0 B K J hp hp0 hp1 hk2 ha h5 h4 p4 hn hk hcell hl hM8 hc0 hlt
  have e1 := E1.out; have e2 := E2.out; have e3 := E3.out; have e4 := E4.out; have e5 := E5.out
  generalize ub v = u at *
  go_enter Try.func19, Try.ntmps19
  go_wp2_with (refine wpList_store_row rfl 32 (.tmp 7) (.tmp 9) (by with_reducible rfl) (w.heap.size + 1) #[.int .i64 A.x0, .int .i64 A.y0, .int .i64 A.x1, .int .i64 A.y1] (by rfl) (by rfl) 32 #[.int .i64 0, .int .i64 0, .int .i64 0, .int .i64 0] (by exact HJ0.out) (by kernel_rfl) rfl (by simp [Value.oneCell']) ?_)
  go_ret
  exact ⟨rfl, HB.out⟩
end Go.Proofs.Ytlbbigehjdnjmaa
