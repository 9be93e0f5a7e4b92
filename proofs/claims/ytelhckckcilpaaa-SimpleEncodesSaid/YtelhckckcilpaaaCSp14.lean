/- Part 15 of the proof: OuOp, Met2, OpenMets, OpenLess, SpY, Law4. -/
import Derived.Lib.SmallJoins
import Derived.Test.YtelhckckcilpaaaCSp13

namespace Go.Proofs.Ytelhckckcilpaaa
open Go.ChangeShapes Go.WideShapes Go.ChangeAt Go.RowKit

theorem choose_listO {α : Type} {p : Nat → α → Prop} : ∀ {n : Nat}, (∀ i, i < n → ∃ x, p i x) → ∃ L : List α, L.length = n ∧ ∀ i x, L[i]? = some x → p i x
  | 0, _ => ⟨[], rfl, fun i x h => by simp at h⟩
  | n + 1, h => by
    obtain ⟨L, h1, h2⟩ := choose_listO (n := n) fun i hi => h i (by omega)
    obtain ⟨x, hx⟩ := h n (by omega)
    refine ⟨L ++ [x], by simp [h1], fun i y hy => ?_⟩
    rcases Nat.lt_or_ge i n with hi | hi
    · rw [List.getElem?_append_left (by omega)] at hy
      exact h2 i y hy
    · rw [List.getElem?_append_right (by omega)] at hy
      have h3 : i - L.length = 0 := by
        rcases Nat.eq_zero_or_pos (i - L.length) with h | h
        · exact h
        · rw [List.getElem?_eq_none (by simp; omega)] at hy; cases hy
      rw [h3] at hy
      cases hy
      rw [show i = n by omega]
      exact hx

section
variable {H : Type} {enc : TypeId × Value → H} {P : Program}
theorem open_pts {w : World} {t e : TypeId} {f0 f1 f2 : Field} {base fuel : Nat} {spare : Nat → Bool} {held : Bool} {v : Value} {x : DataW H × List MemPlace}
    (ht : P.underlying t = some (.slice e)) (he : P.underlying e = some (.struct #[f0, f1, f2])) (hone : Deep.oneCellFields P #[f0, f1, f2] = true) (hC : P.cellsOf e = 3)
    (i0 : P.underlying f0.type = some (.int .i64)) (i1 : P.underlying f1.type = some (.int .i64)) (i2 : P.underlying f2.type = some (.int .i64)) (h : DataW.trod enc P w base spare held fuel t [v] = some x) :
    ∃ (A : Option Addr) (c : Nat) (L : List Pt), v = .slice A L.length c ∧ Lists w w.heap.size A (ptCells L) ∧ ∀ b, (∀ m ∈ x.1.weights P t, m ≤ b) → L.length * P.bytesOf e ≤ b := by
  rcases Deep.open_slice ht h with ⟨hcs, _⟩ | ⟨a, len, cap, m, n, D, Pl, hcs, hb, hl, hm, hmm, hx, hi⟩
  · simp only [List.cons.injEq, and_true] at hcs
    exact ⟨none, 0, [], hcs, Lists.empty _ _ _, fun b _ => by simp⟩
  · simp only [List.cons.injEq, and_true] at hcs
    have hlm : len ≤ m := by split at hmm <;> omega
    obtain ⟨L, hLl, hL⟩ := choose_listO (n := len) (p := fun i (q : Pt) => w.cell? (a.add (i * 3)) = some (.int .i64 q.1) ∧ w.cell? (a.add (i * 3 + 1)) = some (.int .i64 q.2.1) ∧ w.cell? (a.add (i * 3 + 2)) = some (.int .i64 q.2.2)) fun i hil => by
      obtain ⟨cs', hc, ht'⟩ := hi i (by omega)
      rw [hC] at hc
      obtain ⟨ys, n', _, hy, _, hyl, hg⟩ := DataW.trod_struct he ht'
      obtain ⟨_, hcl, hat⟩ := World.cells?_some hc
      match cs', hcl with
      | [c0, c1, c2], _ =>
        match ys, hyl with
        | [y0, y1, y2], _ =>
          have k0 := one_of hone hg (j := 0) rfl rfl rfl
          have k1 := one_of hone hg (j := 1) rfl rfl rfl
          have k2 := one_of hone hg (j := 2) rfl rfl rfl
          obtain ⟨z0, e0, _, _⟩ := DataW.trod_int i0 k0
          obtain ⟨z1, e1, _, _⟩ := DataW.trod_int i1 k1
          obtain ⟨z2, e2, _, _⟩ := DataW.trod_int i2 k2
          simp only [List.cons.injEq, and_true] at e0 e1 e2
          subst e0 e1 e2
          have a0 : w.cell? (a.add (i * 3)) = some (.int .i64 z0) := by have := hat 0 (by omega); rw [Go.Deep.add_add] at this; exact this
          have a1 : w.cell? (a.add (i * 3 + 1)) = some (.int .i64 z1) := by have := hat 1 (by omega); rw [Go.Deep.add_add] at this; exact this
          have a2 : w.cell? (a.add (i * 3 + 2)) = some (.int .i64 z2) := by have := hat 2 (by omega); rw [Go.Deep.add_add] at this; exact this
          exact ⟨(z0, z1, z2), a0, a1, a2⟩
    have hcell : ∀ j u, (ptCells L)[j]? = some u → w.cell? (a.add j) = some u := fun j u hu => by
      have hj : j < L.length * 3 := by
        rcases Nat.lt_or_ge j (L.length * 3) with h | h
        · exact h
        · rw [List.getElem?_eq_none (by rw [ptCells_len]; exact h)] at hu; cases hu
      obtain ⟨q, hq⟩ : ∃ q, L[j / 3]? = some q := ⟨L[j / 3]'(by omega), List.getElem?_eq_getElem _⟩
      obtain ⟨h1, h2, h3⟩ := ptCells_at L (j / 3) q hq
      obtain ⟨h4, h5, h6⟩ := hL _ _ hq
      rcases (show j % 3 = 0 ∨ j % 3 = 1 ∨ j % 3 = 2 by omega) with h | h | h
      · rw [show j / 3 * 3 = j by omega] at h1 h4
        rw [h1] at hu; cases hu; exact h4
      · rw [show j / 3 * 3 + 1 = j by omega] at h2 h5
        rw [h2] at hu; cases hu; exact h5
      · rw [show j / 3 * 3 + 2 = j by omega] at h3 h6
        rw [h3] at hu; cases hu; exact h6
    refine ⟨some a, cap, L, by rw [hLl]; exact hcs, ⟨fun ha => (nomatch ha), fun a' ha => ?_, fun a' ha hne => ?_⟩, fun b hbw => ?_⟩
    · cases ha; exact hcell
    · cases ha
      have h0 : 0 < (ptCells L).length := by
        rcases Nat.eq_zero_or_pos (ptCells L).length with h | h
        · exact absurd (List.eq_nil_of_length_eq_zero h) hne
        · exact h
      have := cell_lt (hcell 0 _ (List.getElem?_eq_getElem h0))
      rwa [addr_add_block] at this
    · subst hx
      refine Nat.le_trans ?_ (hbw _ (by simp only [DataW.weights, ht]; exact List.mem_cons_self))
      refine Nat.mul_le_mul_right _ ?_
      rw [hLl]
      simp

theorem open_outl {w : World} {t u e : TypeId} {f0 f1 f2 : Field} {base : Nat} {spare : Nat → Bool} {held : Bool} {r : Reach} {b0 : Nat} {v : Value} {d : DataW H} {p : List MemPlace}
    (ht : P.underlying t = some (.slice u)) (hu : P.underlying u = some (.slice e)) (hcu : P.cellsOf u = 1) (he : P.underlying e = some (.struct #[f0, f1, f2])) (hone : Deep.oneCellFields P #[f0, f1, f2] = true) (hC : P.cellsOf e = 3) (hb : P.bytesOf e = 24)
    (i0 : P.underlying f0.type = some (.int .i64)) (i1 : P.underlying f1.type = some (.int .i64)) (i2 : P.underlying f2.type = some (.int .i64))
    (hv : Value.okWide P w r b0 t v) (h : DataW.Trod enc P w base spare held t v d p) (hz : ∀ m ∈ d.weights P t, m ≤ reachBytes) :
    ∃ (A : Option Addr) (c : Nat) (Ls : List (List Pt)), v = .slice A Ls.length c ∧ OutAt w w.heap.size A Ls ∧ (∀ L ∈ Ls, L.length ≤ 17592186044416) ∧ Ls.length ≤ 9223372036854775807 := by
  obtain ⟨a0, len, cap, rfl⟩ := okWide_slice ht hv
  obtain ⟨fuel, hf⟩ := h
  rcases Deep.open_slice ht hf with ⟨hcs, _⟩ | ⟨a, len', cap', m, n, D, Pl, hcs, hbb, hl, hm, hmm, hx, hi⟩
  · simp [Value.cells] at hcs
    obtain ⟨rfl, rfl, rfl⟩ := hcs
    exact ⟨none, 0, [], rfl, ⟨fun i L h => by simp at h⟩, fun L h => by simp at h, by simp⟩
  · simp [Value.cells] at hcs
    obtain ⟨rfl, rfl, rfl⟩ := hcs
    unfold maxLen at hm
    have hlm : len ≤ m := by split at hmm <;> omega
    obtain ⟨Ls, hLl, hLs⟩ := choose_listO (n := len) (p := fun i (L : List Pt) => (∃ Ai ci, w.cell? (a.add i) = some (.slice Ai L.length ci) ∧ Lists w w.heap.size Ai (ptCells L)) ∧ L.length ≤ 17592186044416) fun i hil => by
      obtain ⟨cs', hc, ht'⟩ := hi i (by omega)
      rw [hcu, Nat.mul_one] at hc
      obtain ⟨_, hcl, hat⟩ := World.cells?_some hc
      match cs', hcl with
      | [c0], _ =>
        obtain ⟨Ai, ci, L, rfl, hL, hw⟩ := open_pts hu he hone hC i0 i1 i2 ht'
        have a0 : w.cell? (a.add i) = some (.slice Ai L.length ci) := by have := hat 0 (by omega); rw [Go.Deep.add_add] at this; exact this
        refine ⟨L, ⟨Ai, ci, a0, hL⟩, ?_⟩
        have := hw reachBytes fun m hm => hz m (by
          simp only [Prod.mk.injEq] at hx
          rw [hx.1]
          simp only [DataW.weights, ht]
          exact List.mem_cons_of_mem _ (List.mem_append_left _ (weights_all hm (List.mem_map.2 ⟨i, List.mem_range.2 hil, rfl⟩))))
        rw [hb] at this
        have hr := reachBytes_lt
        omega
    refine ⟨some a, cap, Ls, by rw [hLl], ⟨fun i L hL => ?_⟩, fun L hL => ?_, by omega⟩
    · obtain ⟨⟨Ai, ci, h1, h2⟩, _⟩ := hLs i L hL
      have hlt := cell_lt h1
      obtain ⟨b, o, s⟩ := a
      have hs : s = none := by
        obtain ⟨L0, hL0⟩ := at_some (L := Ls) (k := 0) (by have := (List.getElem?_eq_some_iff.1 hL).1; omega)
        obtain ⟨⟨_, _, h4, _⟩, _⟩ := hLs 0 L0 hL0
        simpa [Addr.add] using World.cell?_spot h4
      subst hs
      rw [addr_plain] at h1 hlt
      exact ⟨b, o, Ai, ci, rfl, hlt, h1, h2⟩
    · obtain ⟨i, hi⟩ := List.mem_iff_getElem?.1 hL
      exact (hLs i L hi).2
end

end Go.Proofs.Ytelhckckcilpaaa

namespace Go.Proofs.Ytelhckckcilpaaa
open Go Go.RowKit

/-- May n glyphs be, m of which have an advance of their own? -/
def cmB (n m : Int) : Bool := inB 1 65535 n && inB 1 n m
theorem cmB_true {n m : Int} (h : cmB n m = true) : 1 ≤ n ∧ n ≤ 65535 ∧ 1 ≤ m ∧ m ≤ n := by
  unfold cmB at h
  rw [Bool.and_eq_true] at h
  have := inB_true h.1
  have := inB_true h.2
  omega
theorem cmB_yes {n m : Int} (h1 : 1 ≤ n) (h2 : n ≤ 65535) (h3 : 1 ≤ m) (h4 : m ≤ n) : cmB n m = true := by
  unfold cmB; rw [inB_yes h1 h2, inB_yes h3 h4]; rfl

/-- Metrics as cells. -/
def metCells : List (Int × Int) → List Value
  | [] => []
  | (a, b) :: r => .int .i64 a :: .int .i64 b :: metCells r
theorem metCells_len : ∀ L : List (Int × Int), (metCells L).length = L.length * 2
  | [] => rfl
  | _ :: r => by simp only [metCells, List.length_cons, metCells_len r]; omega
theorem metCells_snoc (a b : Int) : ∀ L, metCells (L ++ [(a, b)]) = metCells L ++ [.int .i64 a, .int .i64 b]
  | [] => rfl
  | (_, _) :: r => by simp only [List.cons_append, metCells, metCells_snoc a b r]
theorem metCells_at : ∀ (L : List (Int × Int)) (k : Nat) (a b : Int), L[k]? = some (a, b) → (metCells L)[k * 2]? = some (.int .i64 a) ∧ (metCells L)[k * 2 + 1]? = some (.int .i64 b)
  | [], k, a, b, h => by simp at h
  | (x, y) :: r, 0, a, b, h => by
    simp only [List.getElem?_cons_zero, Option.some.injEq, Prod.mk.injEq] at h
    obtain ⟨rfl, rfl⟩ := h
    exact ⟨rfl, rfl⟩
  | (x, y) :: r, k + 1, a, b, h => by
    have := metCells_at r k a b (by simpa using h)
    rw [show (k + 1) * 2 = k * 2 + 1 + 1 by omega]
    exact this
theorem metCells_one : ∀ L : List (Int × Int), ∀ u ∈ metCells L, u.oneCell' = true
  | [], u, h => (nomatch h)
  | (x, y) :: r, u, h => by
    simp only [metCells, List.mem_cons] at h
    rcases h with rfl | rfl | h
    · rfl
    · rfl
    · exact metCells_one r u h

end Go.Proofs.Ytelhckckcilpaaa

namespace Go.Proofs.Ytelhckckcilpaaa
open Go.ChangeShapes Go.WideShapes Go.ChangeAt Go.RowKit

theorem choose_list {α : Type} {p : Nat → α → Prop} : ∀ {n : Nat}, (∀ i, i < n → ∃ x, p i x) → ∃ L : List α, L.length = n ∧ ∀ i x, L[i]? = some x → p i x
  | 0, _ => ⟨[], rfl, fun i x h => by simp at h⟩
  | n + 1, h => by
    obtain ⟨L, h1, h2⟩ := choose_list (n := n) fun i hi => h i (by omega)
    obtain ⟨x, hx⟩ := h n (by omega)
    refine ⟨L ++ [x], by simp [h1], fun i y hy => ?_⟩
    rcases Nat.lt_or_ge i n with hi | hi
    · rw [List.getElem?_append_left (by omega)] at hy
      exact h2 i y hy
    · rw [List.getElem?_append_right (by omega)] at hy
      have h3 : i - L.length = 0 := by
        rcases Nat.eq_zero_or_pos (i - L.length) with h | h
        · exact h
        · rw [List.getElem?_eq_none (by simp; omega)] at hy; cases hy
      rw [h3] at hy
      cases hy
      rw [show i = n by omega]
      exact hx

section
variable {H : Type} {enc : TypeId × Value → H} {P : Program}
theorem open_bytes {w : World} {t e : TypeId} {base : Nat} {spare : Nat → Bool} {held : Bool} {r : Reach} {b0 : Nat} {v : Value} {d : DataW H} {p : List MemPlace}
    (hs : P.underlying t = some (.slice e)) (he : P.underlying e = some (.int .u8)) (hC : P.cellsOf e = 1) (hb : P.bytesOf e = 1)
    (hv : Value.okWide P w r b0 t v) (h : DataW.Trod enc P w base spare held t v d p) (hz : ∀ m ∈ d.weights P t, m ≤ reachBytes) :
    ∃ (A : Option Addr) (c : Nat) (E : List Value), v = .slice A E.length c ∧ E.length ≤ c ∧ c ≤ 9223372036854775807 ∧ Lists w w.heap.size A E ∧ Bytes8 E ∧ E.length ≤ 140737488355328 := by
  obtain ⟨a0, len, cap, rfl⟩ := okWide_slice hs hv
  obtain ⟨fuel, hf⟩ := h
  rw [show (Value.slice a0 len cap).cells = #[.slice a0 len cap] from rfl] at hf
  obtain ⟨A, n, c, zs, hv1, hlen, hnc, hcm, hL, hwf, hw⟩ := open_nums hs he hC hf
  have h1 := hw reachBytes hz
  rw [hb] at h1
  have hr := reachBytes_lt
  unfold maxLen at hcm
  refine ⟨A, c, zs.map (Value.int .u8), by rw [List.length_map, hlen]; exact hv1, by rw [List.length_map]; omega, hcm, hL, bytes_of_wf hwf, by rw [List.length_map]; omega⟩

theorem open_mets {w : World} {t e : TypeId} {f0 f1 : Field} {base : Nat} {spare : Nat → Bool} {held : Bool} {r : Reach} {b0 : Nat} {v : Value} {d : DataW H} {p : List MemPlace}
    (ht : P.underlying t = some (.slice e)) (he : P.underlying e = some (.struct #[f0, f1])) (hone : Deep.oneCellFields P #[f0, f1] = true) (hC : P.cellsOf e = 2)
    (i0 : P.underlying f0.type = some (.int .i64)) (i1 : P.underlying f1.type = some (.int .i64))
    (hv : Value.okWide P w r b0 t v) (h : DataW.Trod enc P w base spare held t v d p) :
    ∃ (A : Option Addr) (c : Nat) (L : List (Int × Int)), v = .slice A L.length c ∧ L.length ≤ c ∧ c ≤ 9223372036854775807 ∧ Lists w w.heap.size A (metCells L) := by
  obtain ⟨a0, len, cap, rfl⟩ := okWide_slice ht hv
  obtain ⟨fuel, hf⟩ := h
  rcases Deep.open_slice ht hf with ⟨hcs, _⟩ | ⟨a, len', cap', m, n, D, Pl, hcs, hb, hl, hm, hmm, hx, hi⟩
  · simp [Value.cells] at hcs
    obtain ⟨rfl, rfl, rfl⟩ := hcs
    exact ⟨none, 0, [], rfl, Nat.le_refl _, Nat.zero_le _, Lists.empty _ _ _⟩
  · simp [Value.cells] at hcs
    obtain ⟨rfl, rfl, rfl⟩ := hcs
    unfold maxLen at hm
    have hlm : len ≤ m := by split at hmm <;> omega
    obtain ⟨L, hLl, hL⟩ := choose_list (n := len) (p := fun i (q : Int × Int) => w.cell? (a.add (i * 2)) = some (.int .i64 q.1) ∧ w.cell? (a.add (i * 2 + 1)) = some (.int .i64 q.2)) fun i hil => by
      obtain ⟨cs', hc, ht'⟩ := hi i (by omega)
      rw [hC] at hc
      obtain ⟨ys, n', _, hy, _, hyl, hg⟩ := DataW.trod_struct he ht'
      obtain ⟨_, hcl, hat⟩ := World.cells?_some hc
      match cs', hcl with
      | [c0, c1], _ =>
        match ys, hyl with
        | [y0, y1], _ =>
          have k0 := one_of hone hg (j := 0) rfl rfl rfl
          have k1 := one_of hone hg (j := 1) rfl rfl rfl
          obtain ⟨z0, e0, _, _⟩ := DataW.trod_int i0 k0
          obtain ⟨z1, e1, _, _⟩ := DataW.trod_int i1 k1
          simp only [List.cons.injEq, and_true] at e0 e1
          subst e0 e1
          have a0 : w.cell? (a.add (i * 2)) = some (.int .i64 z0) := by have := hat 0 (by omega); rw [Go.Deep.add_add] at this; exact this
          have a1 : w.cell? (a.add (i * 2 + 1)) = some (.int .i64 z1) := by have := hat 1 (by omega); rw [Go.Deep.add_add] at this; exact this
          exact ⟨(z0, z1), a0, a1⟩
    have hcell : ∀ j u, (metCells L)[j]? = some u → w.cell? (a.add j) = some u := fun j u hu => by
      have hj : j < L.length * 2 := by
        rcases Nat.lt_or_ge j (L.length * 2) with h | h
        · exact h
        · rw [List.getElem?_eq_none (by rw [metCells_len]; exact h)] at hu; cases hu
      obtain ⟨q, hq⟩ : ∃ q, L[j / 2]? = some q := ⟨L[j / 2]'(by omega), List.getElem?_eq_getElem _⟩
      obtain ⟨h1, h2⟩ := metCells_at L (j / 2) q.1 q.2 hq
      obtain ⟨h3, h4⟩ := hL _ _ hq
      rcases Nat.mod_two_eq_zero_or_one j with h | h
      · rw [show j / 2 * 2 = j by omega] at h1 h3
        rw [h1] at hu; cases hu; exact h3
      · rw [show j / 2 * 2 + 1 = j by omega] at h2 h4
        rw [h2] at hu; cases hu; exact h4
    refine ⟨some a, cap, L, by rw [hLl], by omega, hm, ⟨fun ha => (nomatch ha), fun a' ha => ?_, fun a' ha hne => ?_⟩⟩
    · cases ha; exact hcell
    · cases ha
      have h0 : 0 < (metCells L).length := by
        rcases Nat.eq_zero_or_pos (metCells L).length with h | h
        · exact absurd (List.eq_nil_of_length_eq_zero h) hne
        · exact h
      have := cell_lt (hcell 0 _ (List.getElem?_eq_getElem h0))
      rwa [addr_add_block] at this
end

end Go.Proofs.Ytelhckckcilpaaa

namespace Go.Proofs.Ytelhckckcilpaaa
open Go.ChangeShapes Go.WideShapes Go.ChangeAt Go.RowKit

section
variable {H : Type} {enc : TypeId × Value → H}
/-- A []byte that came in, with room for what little is put ahead of it. -/
theorem open_less {P : Program} {w : World} {t e : TypeId} {base : Nat} {spare : Nat → Bool} {held : Bool} {r : Reach} {b0 : Nat} {v : Value} {d : DataW H} {p : List MemPlace}
    (hs : P.underlying t = some (.slice e)) (he : P.underlying e = some (.int .u8)) (hC : P.cellsOf e = 1) (hb : P.bytesOf e = 1)
    (hv : Value.okWide P w r b0 t v) (h : DataW.Trod enc P w base spare held t v d p) (hz : ∀ m ∈ d.weights P t, m ≤ reachBytes) :
    ∃ (A : Option Addr) (c : Nat) (E : List Value), v = .slice A E.length c ∧ E.length ≤ c ∧ c ≤ 9223372036854775807 ∧ Lists w w.heap.size A E ∧ Bytes8 E ∧ E.length ≤ 140737488351232 := by
  obtain ⟨a0, len, cap, rfl⟩ := okWide_slice hs hv
  obtain ⟨fuel, hf⟩ := h
  rw [show (Value.slice a0 len cap).cells = #[.slice a0 len cap] from rfl] at hf
  obtain ⟨A, n, c, zs, hv1, hlen, hnc, hcm, hL, hwf, hw⟩ := open_nums hs he hC hf
  have h1 := hw reachBytes hz
  rw [hb] at h1
  have hr : reachBytes ≤ 140737488351232 := by decide
  unfold maxLen at hcm
  refine ⟨A, c, zs.map (Value.int .u8), by rw [List.length_map, hlen]; exact hv1, by rw [List.length_map]; omega, hcm, hL, bytes_of_wf hwf, by rw [List.length_map]; omega⟩
end
end Go.Proofs.Ytelhckckcilpaaa

namespace Go.Proofs.Ytelhckckcilpaaa
open Go Go.RowKit
set_option linter.unusedVariables false
set_option linter.unusedSimpArgs false

set_option maxRecDepth 100000 in
theorem splarge_any (B : Nat) (A : Option Addr) (c : Nat) (Ls : List (List Pt)) (w : World) (hB : B ≤ w.heap.size) (h : OutAt w B A Ls) (hm : ∀ L ∈ Ls, L.length ≤ 17592186044416) (hn : Ls.length ≤ 9223372036854775807) (r : Bool) (hr : bigB Ls = r) :
    Calls Try.prog 13 #[.slice A Ls.length c] w fun e w' => e = .returned (.bool r) ∧ Below w.heap.size w w' := by
  have HL := Lib.hid h
  have HM := Lib.hid hm
  obtain ⟨n, hnn⟩ : ∃ n, n = Ls.length := ⟨_, rfl⟩
  rw [← hnn] at hn ⊢
  have HN := Lib.hid hnn
  have HR := Lib.hid hr
  clear h hnn hm hr
  go_enter Try.func13, Try.ntmps13
  go_wp2
  go_loopw [3, 4] (fun s i wr => ∃ k : Nat, k ≤ n ∧ k ≤ 400 ∧ i = .int .i64 k ∧ s = .int .i64 (cntO (Ls.take k) : Nat) ∧ Below w.heap.size w wr) (fun _ i _ => n - (intOf i).toNat)
  case atStart => exact ⟨0, Nat.zero_le _, Nat.zero_le _, rfl, rfl, Below.refl _ _⟩
  case round =>
    obtain ⟨k, hk, hk2, rfl, rfl, hb⟩ := hrel
    by_cases hlt : k < n
    · have d1 : decide ((k : Int) < (n : Int)) = true := by simp; omega
      by_cases hlt2 : k < 400
      · have d2 : decide ((k : Int) < 400) = true := by simp; omega
        obtain ⟨L, hL⟩ := at_some (L := Ls) (k := k) (by rw [← HN.out]; exact hlt)
        obtain ⟨b, o, Ai, ci, rfl, hbl, c0, hE⟩ := HL.out.at' k L hL
        have g0 := (hb.cell (p := ⟨b, o + k, none⟩) (Nat.lt_of_lt_of_le hbl hB)).trans c0
        have g3 : b < wr.heap.size := by have := hb.size; omega
        have HS := Lib.hid (show cntO (Ls.take (k + 1)) = cntO (Ls.take k) + L.length by rw [take_snoc1 hL, cntO_snoc])
        have hl : L.length ≤ 17592186044416 := HM.out L (List.mem_of_getElem? hL)
        have hc : cntO (Ls.take k) ≤ 7036874417766400 := Nat.le_trans (cntO_le fun M hM => HM.out M (List.mem_of_mem_take hM)) (by have : (Ls.take k).length ≤ 400 := Nat.le_trans (List.length_take_le _ _) (by omega); omega)
        clear c0 hE hL
        generalize L.length = l at *
        generalize cntO (Ls.take k) = s at *
        go_wp2
        go_roundw
        case rel => exact ⟨k + 1, by omega, by omega, by go_num, congrArg (Value.int .i64) (by rw [HS.out]; omega), hb⟩
        case measure => simp [intOf]; omega
      · obtain rfl : k = 400 := by omega
        have d2 : decide ((400 : Int) < 400) = false := by simp
        have d3 : decide (300 < (n : Int)) = true := by simp; omega
        have HB := Lib.hid (show r = true by rw [← HR.out]; unfold bigB; rw [← HN.out]; simp; omega)
        go_wp2
        go_ret
        exact ⟨by rw [HB.out]; rfl, hb⟩
    · obtain rfl : k = n := by omega
      have d1 : decide ((k : Int) < (k : Int)) = false := by simp
      have HT := Lib.hid (show Ls.take k = Ls by rw [HN.out]; exact List.take_length)
      by_cases h3 : 300 < k
      · have d3 : decide (300 < (k : Int)) = true := by simp; omega
        have HB := Lib.hid (show r = true by rw [← HR.out]; unfold bigB; rw [← HN.out]; simp; omega)
        go_wp2
        go_ret
        exact ⟨by rw [HB.out]; rfl, hb⟩
      · have d3 : decide (300 < (k : Int)) = false := by simp; omega
        have HB := Lib.hid (show r = decide (5000 < cntO (Ls.take k)) by rw [← HR.out, HT.out]; unfold bigB; rw [← HN.out]; simp; omega)
        generalize cntO (Ls.take k) = s at *
        by_cases h4 : 5000 < s
        · have d4 : decide (5000 < (s : Int)) = true := by simp; omega
          go_wp2
          go_ret
          exact ⟨by rw [HB.out]; simp [h4], hb⟩
        · have d4 : decide (5000 < (s : Int)) = false := by simp; omega
          go_wp2
          go_ret
          exact ⟨by rw [HB.out]; simp [h4], hb⟩

theorem spsm_of {Ls : List (List Pt)} (h : bigB Ls = false) : Sm Ls := by
  obtain ⟨h1, h2⟩ := big_no h
  refine ⟨by omega, fun L hL => ?_⟩
  have : L.length ≤ cntO Ls := by
    obtain ⟨i, hi⟩ := List.mem_iff_getElem?.1 hL
    have e1 := cntO_take Ls (i + 1)
    rw [take_snoc1 hi, cntO_snoc] at e1
    omega
  omega
theorem encS_bad (Ls : List (List Pt)) (h : (encS Ls).1 ≠ 0) : (encS Ls).2 = [] := by
  unfold encS at h ⊢
  split
  · rename_i hc
    rw [if_pos hc] at h
    split
    · rename_i X Y hX hY
      split
      · rfl
      · rename_i hcub
        split
        · rfl
        · rename_i hne
          rw [hX, hY] at h
          simp only at h
          rw [if_neg hcub, if_neg hne] at h
          exact absurd rfl h
    · rfl
  · rfl
theorem own_lowL {w : World} {base : Nat} {e : TypeId} {size n : Nat} {v : Value} {xs : List Value} (h : w.ownsRow base e size v n xs) (j : Nat) (hj : v.ownBlock = some j) : base ≤ j := sp_low h j (by simp [blk, hj])
/-- What Encode answers, as a call wants it. -/
def EncL (w : World) (bs : List Value) (n : Nat) (r : Int) (e : Ending) (w' : World) : Prop := ∃ A c, e = .returned (.tuple #[.slice A n c, .int .i64 r]) ∧ Hid (Lists w' w'.heap.size A bs) ∧ n ≤ c ∧ c ≤ 9223372036854775807 ∧ Below w.heap.size w w'
theorem spenc_l (A : Option Addr) (c m : Nat) (Ls : List (List Pt)) (w : World) (h : OutAt w w.heap.size A Ls) (hs : Sm Ls) (hm : Ls.length = m) (bs : List Value) (r : Int) (he : encS Ls = (r, bs)) (n : Nat) (hn : bs.length = n) : Calls Try.prog 14 #[.slice A m c] w (EncL w bs n r) := by
  subst hm hn
  refine (spenc_any A c Ls w h hs).mono fun e w' ⟨A', c', h1, h2, h3⟩ => ?_
  rw [he] at h1 h2
  obtain ⟨a, b⟩ := own_at h2
  exact ⟨A', c', h1, Lib.hid a, b, own_capS h2, h3⟩
def DecL (w : World) (Ls : List (List Pt)) (n : Nat) (r : Int) (e : Ending) (w' : World) : Prop := ∃ A c, e = .returned (.tuple #[.slice A n c, .int .i64 r]) ∧ OutAt w' w'.heap.size A Ls ∧ Below w.heap.size w w'
theorem sdec_lw (A : Option Addr) (c n : Nat) (E : List Value) (w : World) (hE : Lists w w.heap.size A E) (hn : E.length = n) (h8 : Bytes8 E) (hc : n ≤ c) (hc2 : c ≤ 9223372036854775807) (hm : n ≤ 281474976710656) (Ls : List (List Pt)) (r : Int) (hd : decS E = (Ls, r)) (m : Nat) (hl : Ls.length = m) :
    Calls Try.prog 7 #[.slice A n c] w (DecL w Ls m r) := by
  subst hl
  refine (sdec_any A c n E w hE hn h8 hc hc2 hm).mono fun e w' ⟨v, h1, h2, h3⟩ => ?_
  rw [hd] at h1 h2
  obtain ⟨A', c', rfl, o⟩ := h2.out
  exact ⟨A', c', h1, o, h3⟩
end Go.Proofs.Ytelhckckcilpaaa

namespace Go.Proofs.Ytelhckckcilpaaa
open Go.ChangeShapes Go.WideShapes Go.ChangeAt Go.RowKit Go.Deep

section
variable {H : Type} {enc : TypeId × Value → H} {P : Program}
theorem open_four {w : World} {t : TypeId} {f0 f1 f2 f3 : Field} {base : Nat} {spare : Nat → Bool} {held : Bool} {r : Reach} {b0 : Nat} {v : Value} {d : DataW H} {p : List MemPlace}
    (hs : P.underlying t = some (.struct #[f0, f1, f2, f3])) (hone : oneCellFields P #[f0, f1, f2, f3] = true) (hC : P.cellsOf t = 4)
    (u0 : P.underlying f0.type = some (.int .i64)) (u1 : P.underlying f1.type = some (.int .i64)) (u2 : P.underlying f2.type = some (.int .i64)) (u3 : P.underlying f3.type = some (.int .i64))
    (hv : Value.okWide P w r b0 t v) (h : DataW.Trod enc P w base spare held t v d p) :
    ∃ a b c e : Int, v = .agg #[.int .i64 a, .int .i64 b, .int .i64 c, .int .i64 e] ∧ (Lit.int .i64 a).wf = true ∧ (Lit.int .i64 b).wf = true ∧ (Lit.int .i64 c).wf = true ∧ (Lit.int .i64 e).wf = true := by
  obtain ⟨v0, v1, v2, v3, y0, y1, y2, y3, n, rfl, _, _, h0, h1, h2, h3⟩ := Joins.open_agg4 hs hone hC hv h
  obtain ⟨a, e0, _, wa⟩ := DataW.trod_int u0 h0
  obtain ⟨b, e1, _, wb⟩ := DataW.trod_int u1 h1
  obtain ⟨c, e2, _, wc⟩ := DataW.trod_int u2 h2
  obtain ⟨e, e3, _, we⟩ := DataW.trod_int u3 h3
  simp at e0 e1 e2 e3
  subst e0 e1 e2 e3
  exact ⟨a, b, c, e, rfl, wa, wb, wc, we⟩
end

theorem Try.cellsB : Try.prog.cellsOf 68 = 4 := by kernel_rfl

end Go.Proofs.Ytelhckckcilpaaa
