/- Opening arguments: a []byte; a slice of structs of two ints. -/
import Derived.Test.YtdbhfigdojkceaaOpenNums
import Derived.Test.YtdbhfigdojkceaaMet2
namespace Go.Proofs.Ytdbhfigdojkceaa
open Go.ChangeShapes Go.WideShapes Go.ChangeAt Go.RowKit

theorem choose_list {α : Type} {p : Nat → α → Prop} : ∀ {n : Nat}, (∀ i, i < n → ∃ x, p i x) → ∃ L : List α, L.length = n ∧ ∀ i x, L[i]? = some x → p i x
  | 0, _ => ⟨[], rfl, fun i x h => by simp at h⟩
  | n + 1, h => by
    obtain ⟨L, h1, h2⟩ := choose_list (n := n) fun i hi => h i (by omega)
    obtain ⟨x, hx⟩ := h n (by omega)
    refine ⟨L ++ [x], by simp [h1], fun i y hy => ?_⟩
    rcases Nat.lt_or_ge i n with hi | hi
    · rw [List.getElem?_append_left (by omega)] at hy
      exact h2 i y hy
    · rw [List.getElem?_append_right (by omega)] at hy
      have h3 : i - L.length = 0 := by
        rcases Nat.eq_zero_or_pos (i - L.length) with h | h
        · exact h
        · rw [List.getElem?_eq_none (by simp; omega)] at hy; cases hy
      rw [h3] at hy
      cases hy
      rw [show i = n by omega]
      exact hx

section
variable {H : Type} {enc : TypeId × Value → H} {P : Program}
theorem open_bytes {w : World} {t e : TypeId} {base : Nat} {spare : Nat → Bool} {held : Bool} {r : Reach} {b0 : Nat} {v : Value} {d : DataW H} {p : List MemPlace}
    (hs : P.underlying t = some (.slice e)) (he : P.underlying e = some (.int .u8)) (hC : P.cellsOf e = 1) (hb : P.bytesOf e = 1)
    (hv : Value.okWide P w r b0 t v) (h : DataW.Trod enc P w base spare held t v d p) (hz : ∀ m ∈ d.weights P t, m ≤ reachBytes) :
    ∃ (A : Option Addr) (c : Nat) (E : List Value), v = .slice A E.length c ∧ E.length ≤ c ∧ c ≤ 9223372036854775807 ∧ Lists w w.heap.size A E ∧ Bytes8 E ∧ E.length ≤ 140737488355328 := by
  obtain ⟨a0, len, cap, rfl⟩ := okWide_slice hs hv
  obtain ⟨fuel, hf⟩ := h
  rw [show (Value.slice a0 len cap).cells = #[.slice a0 len cap] from rfl] at hf
  obtain ⟨A, n, c, zs, hv1, hlen, hnc, hcm, hL, hwf, hw⟩ := open_nums hs he hC hf
  have h1 := hw reachBytes hz
  rw [hb] at h1
  have hr := reachBytes_lt
  unfold maxLen at hcm
  refine ⟨A, c, zs.map (Value.int .u8), by rw [List.length_map, hlen]; exact hv1, by rw [List.length_map]; omega, hcm, hL, bytes_of_wf hwf, by rw [List.length_map]; omega⟩

theorem open_mets {w : World} {t e : TypeId} {f0 f1 : Field} {base : Nat} {spare : Nat → Bool} {held : Bool} {r : Reach} {b0 : Nat} {v : Value} {d : DataW H} {p : List MemPlace}
    (ht : P.underlying t = some (.slice e)) (he : P.underlying e = some (.struct #[f0, f1])) (hone : Deep.oneCellFields P #[f0, f1] = true) (hC : P.cellsOf e = 2)
    (i0 : P.underlying f0.type = some (.int .i64)) (i1 : P.underlying f1.type = some (.int .i64))
    (hv : Value.okWide P w r b0 t v) (h : DataW.Trod enc P w base spare held t v d p) :
    ∃ (A : Option Addr) (c : Nat) (L : List (Int × Int)), v = .slice A L.length c ∧ L.length ≤ c ∧ c ≤ 9223372036854775807 ∧ Lists w w.heap.size A (metCells L) := by
  obtain ⟨a0, len, cap, rfl⟩ := okWide_slice ht hv
  obtain ⟨fuel, hf⟩ := h
  rcases Deep.open_slice ht hf with ⟨hcs, _⟩ | ⟨a, len', cap', m, n, D, Pl, hcs, hb, hl, hm, hmm, hx, hi⟩
  · simp [Value.cells] at hcs
    obtain ⟨rfl, rfl, rfl⟩ := hcs
    exact ⟨none, 0, [], rfl, Nat.le_refl _, Nat.zero_le _, Lists.empty _ _ _⟩
  · simp [Value.cells] at hcs
    obtain ⟨rfl, rfl, rfl⟩ := hcs
    unfold maxLen at hm
    have hlm : len ≤ m := by split at hmm <;> omega
    obtain ⟨L, hLl, hL⟩ := choose_list (n := len) (p := fun i (q : Int × Int) => w.cell? (a.add (i * 2)) = some (.int .i64 q.1) ∧ w.cell? (a.add (i * 2 + 1)) = some (.int .i64 q.2)) fun i hil => by
      obtain ⟨cs', hc, ht'⟩ := hi i (by omega)
      rw [hC] at hc
      obtain ⟨ys, n', _, hy, _, hyl, hg⟩ := DataW.trod_struct he ht'
      obtain ⟨_, hcl, hat⟩ := World.cells?_some hc
      match cs', hcl with
      | [c0, c1], _ =>
        match ys, hyl with
        | [y0, y1], _ =>
          have k0 := one_of hone hg (j := 0) rfl rfl rfl
          have k1 := one_of hone hg (j := 1) rfl rfl rfl
          obtain ⟨z0, e0, _, _⟩ := DataW.trod_int i0 k0
          obtain ⟨z1, e1, _, _⟩ := DataW.trod_int i1 k1
          simp only [List.cons.injEq, and_true] at e0 e1
          subst e0 e1
          have a0 : w.cell? (a.add (i * 2)) = some (.int .i64 z0) := by have := hat 0 (by omega); rw [Go.Deep.add_add] at this; exact this
          have a1 : w.cell? (a.add (i * 2 + 1)) = some (.int .i64 z1) := by have := hat 1 (by omega); rw [Go.Deep.add_add] at this; exact this
          exact ⟨(z0, z1), a0, a1⟩
    have hcell : ∀ j u, (metCells L)[j]? = some u → w.cell? (a.add j) = some u := fun j u hu => by
      have hj : j < L.length * 2 := by
        rcases Nat.lt_or_ge j (L.length * 2) with h | h
        · exact h
        · rw [List.getElem?_eq_none (by rw [metCells_len]; exact h)] at hu; cases hu
      obtain ⟨q, hq⟩ : ∃ q, L[j / 2]? = some q := ⟨L[j / 2]'(by omega), List.getElem?_eq_getElem _⟩
      obtain ⟨h1, h2⟩ := metCells_at L (j / 2) q.1 q.2 hq
      obtain ⟨h3, h4⟩ := hL _ _ hq
      rcases Nat.mod_two_eq_zero_or_one j with h | h
      · rw [show j / 2 * 2 = j by omega] at h1 h3
        rw [h1] at hu; cases hu; exact h3
      · rw [show j / 2 * 2 + 1 = j by omega] at h2 h4
        rw [h2] at hu; cases hu; exact h4
    refine ⟨some a, cap, L, by rw [hLl], by omega, hm, ⟨fun ha => (nomatch ha), fun a' ha => ?_, fun a' ha hne => ?_⟩⟩
    · cases ha; exact hcell
    · cases ha
      have h0 : 0 < (metCells L).length := by
        rcases Nat.eq_zero_or_pos (metCells L).length with h | h
        · exact absurd (List.eq_nil_of_length_eq_zero h) hne
        · exact h
      have := cell_lt (hcell 0 _ (List.getElem?_eq_getElem h0))
      rwa [addr_add_block] at this
end

end Go.Proofs.Ytdbhfigdojkceaa
