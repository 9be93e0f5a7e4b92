/- Opening an argument that is a slice of operations (structs of three ints and a []byte); what the reach says of each part. -/
import Derived.Test.YtdbnjlmkbmfhkaaOpenInts
import Derived.Test.YtdbnjlmkbmfhkaaWw
import Derived.Deep.Slices
import Derived.Deep.Fields
import Derived.SizedLaws
namespace Go.Proofs.Ytdbnjlmkbmfhkaa
open Go.ChangeShapes Go.WideShapes Go.ChangeAt Go.RowKit

section
variable {H : Type} {enc : TypeId × Value → H} {P : Program}
theorem weights_all {e : TypeId} {d : DataW H} {n : Nat} (hn : n ∈ d.weights P e) : ∀ {l : List (DataW H)}, d ∈ l → n ∈ DataW.weightsAll P e l
  | [], h => (nomatch h)
  | a :: r, h => by
    rw [DataW.weightsAll]
    rcases List.mem_cons.1 h with h | h
    · subst h; exact List.mem_append_left _ hn
    · exact List.mem_append_right _ (weights_all hn h)

theorem cell_lt {w : World} {a : Addr} {v : Value} (h : w.cell? a = some v) : a.block < w.heap.size := by
  rcases Nat.lt_or_ge a.block w.heap.size with h1 | h1
  · exact h1
  · unfold World.cell? at h
    rw [Array.getElem?_eq_none h1] at h
    cases h

/-- A slice of numbers, at the value that a cell holds. -/
theorem open_nums {w : World} {t e : TypeId} {k : IntKind} {base fuel : Nat} {spare : Nat → Bool} {held : Bool} {v : Value} {x : DataW H × List MemPlace}
    (hs : P.underlying t = some (.slice e)) (he : P.underlying e = some (.int k)) (hC : P.cellsOf e = 1) (h : DataW.trod enc P w base spare held fuel t [v] = some x) :
    ∃ (A : Option Addr) (n c : Nat) (zs : List Int), v = .slice A n c ∧ zs.length = n ∧ n ≤ c ∧ c ≤ maxLen ∧ Lists w w.heap.size A (zs.map (Value.int k)) ∧ (∀ z ∈ zs, (Lit.int k z).wf = true) ∧
      ∀ b, (∀ m ∈ x.1.weights P t, m ≤ b) → n * P.bytesOf e ≤ b := by
  rcases open_ints hs he hC h with ⟨hcs, hx⟩ | ⟨a, len, cap, zs, hcs, _, hl, hm, hz, hx, hcell, hwf⟩
  · simp only [List.cons.injEq, and_true] at hcs
    exact ⟨none, 0, 0, [], hcs, rfl, Nat.le_refl _, Nat.zero_le _, Lists.empty _ _ _, (fun z hz => (nomatch hz)), fun b _ => by omega⟩
  · simp only [List.cons.injEq, and_true] at hcs
    have hlen : len ≤ zs.length := by split at hz <;> omega
    have hc : ∀ j u, ((zs.take len).map (Value.int k))[j]? = some u → w.cell? (a.add j) = some u := fun j u hu => by
      rw [List.getElem?_map, Option.map_eq_some_iff] at hu
      obtain ⟨z, hz1, rfl⟩ := hu
      have hj : j < (zs.take len).length := (List.getElem?_eq_some_iff.1 hz1).1
      have hj2 : j < zs.length := by simp at hj; omega
      rw [hcell j hj2]
      simp only [List.getElem?_take, List.length_take] at hz1 hj
      rw [if_pos (by omega)] at hz1
      simp [List.getD, hz1]
    refine ⟨some a, len, cap, zs.take len, hcs, by simp; omega, hl, hm, ⟨fun ha => (nomatch ha), fun a' ha => ?_, fun a' ha hne => ?_⟩, fun z hz' => hwf z (List.mem_of_mem_take hz'), fun b hb => ?_⟩
    · cases ha; exact hc
    · cases ha
      have h0 : 0 < ((zs.take len).map (Value.int k)).length := by
        rcases Nat.eq_zero_or_pos ((zs.take len).map (Value.int k)).length with h | h
        · exact absurd (List.eq_nil_of_length_eq_zero h) hne
        · exact h
      have := cell_lt (hc 0 _ (List.getElem?_eq_getElem h0))
      rwa [addr_add_block] at this
    · subst hx
      have := hb (((lits k (zs.take len) : List (DataW H)).length + (lits k (zs.drop len) : List (DataW H)).length) * P.bytesOf e) (by simp [DataW.weights, hs])
      refine Nat.le_trans (Nat.mul_le_mul_right _ ?_) this
      simp [lits]
      omega

theorem bytes_of_wf {zs : List Int} (h : ∀ z ∈ zs, (Lit.int .u8 z).wf = true) : Bytes8 (zs.map (Value.int .u8)) := fun u hu => by
  obtain ⟨z, hz, rfl⟩ := List.mem_map.1 hu
  have := h z hz
  simp [Lit.wf, IntKind.min, IntKind.max, IntKind.signed, IntKind.bits] at this
  exact ⟨z.toNat, by omega, by congr 1; omega⟩

theorem one_of {w : World} {base fuel : Nat} {spare : Nat → Bool} {held : Bool} {fs : Array Field} {cs : List Value} {ys : List (DataW H × List MemPlace)} (hone : Deep.oneCellFields P fs = true)
    (hg : ∀ (i : Nat) (f : Field), fs[i]? = some f → DataW.trod enc P w base spare held fuel f.type ((cs.drop f.offset).take (P.cellsOf f.type)) = ys[i]?) {j : Nat} {f : Field} {c : Value} {y : DataW H × List MemPlace}
    (hf : fs[j]? = some f) (hc : cs[j]? = some c) (hy : ys[j]? = some y) : DataW.trod enc P w base spare held fuel f.type [c] = some y := by
  have h := hg j f hf
  obtain ⟨h1, h2⟩ := Deep.hone_of hone j f hf
  obtain ⟨hj, hcj⟩ := List.getElem?_eq_some_iff.1 hc
  rw [h1, h2, hy, List.drop_eq_getElem_cons hj, hcj] at h
  exact h

theorem open_ops {w : World} {t e u : TypeId} {f0 f1 f2 f3 : Field} {base : Nat} {spare : Nat → Bool} {held : Bool} {r : Reach} {b0 : Nat} {v : Value} {d : DataW H} {p : List MemPlace}
    (ht : P.underlying t = some (.slice e)) (he : P.underlying e = some (.struct #[f0, f1, f2, f3])) (hone : Deep.oneCellFields P #[f0, f1, f2, f3] = true) (hC : P.cellsOf e = 4)
    (i0 : P.underlying f0.type = some (.int .i64)) (i1 : P.underlying f1.type = some (.int .i64)) (i2 : P.underlying f2.type = some (.int .i64)) (i3 : P.underlying f3.type = some (.slice u))
    (hu : P.underlying u = some (.int .u8)) (hcu : P.cellsOf u = 1) (hbu : P.bytesOf u = 1)
    (hv : Value.okWide P w r b0 t v) (h : DataW.Trod enc P w base spare held t v d p) (hz : ∀ m ∈ d.weights P t, m ≤ reachBytes) : ∃ A n c, v = .slice A n c ∧ OpsAt w A n := by
  obtain ⟨a0, len, cap, rfl⟩ := okWide_slice ht hv
  obtain ⟨fuel, hf⟩ := h
  rcases Deep.open_slice ht hf with ⟨hcs, _⟩ | ⟨a, len', cap', m, n, D, Pl, hcs, hb, hl, hm, hmm, hx, hi⟩
  · simp [Value.cells] at hcs
    obtain ⟨rfl, rfl, rfl⟩ := hcs
    exact ⟨none, 0, 0, rfl, fun i hi => absurd hi (Nat.not_lt_zero _)⟩
  · simp [Value.cells] at hcs
    obtain ⟨rfl, rfl, rfl⟩ := hcs
    refine ⟨some a, len, cap, rfl, fun i hil => ?_⟩
    have him : i < m := by split at hmm <;> omega
    obtain ⟨cs', hc, ht'⟩ := hi i him
    rw [hC] at hc
    obtain ⟨ys, n', _, hy, _, hyl, hg⟩ := DataW.trod_struct he ht'
    obtain ⟨_, hcl, hat⟩ := World.cells?_some hc
    match cs', hcl with
    | [c0, c1, c2, c3], _ =>
      match ys, hyl with
      | [y0, y1, y2, y3], _ =>
        have k0 := one_of hone hg (j := 0) rfl rfl rfl
        have k1 := one_of hone hg (j := 1) rfl rfl rfl
        have k2 := one_of hone hg (j := 2) rfl rfl rfl
        have k3 := one_of hone hg (j := 3) rfl rfl rfl
        obtain ⟨z0, e0, _, _⟩ := DataW.trod_int i0 k0
        obtain ⟨z1, e1, _, wf1⟩ := DataW.trod_int i1 k1
        obtain ⟨z2, e2, _, _⟩ := DataW.trod_int i2 k2
        obtain ⟨Ai, mi, ci, zs, e3, hlen, _, _, hL, hwf, hw3⟩ := open_nums i3 hu hcu k3
        simp only [List.cons.injEq, and_true] at e0 e1 e2
        subst e0 e1 e2 e3
        have a0 : w.cell? (a.add (i * 4)) = some (.int .i64 z0) := by have := hat 0 (by omega); rw [Go.Deep.add_add] at this; exact this
        have a1 : w.cell? (a.add (i * 4 + 1)) = some (.int .i64 z1) := by have := hat 1 (by omega); rw [Go.Deep.add_add] at this; exact this
        have a2 : w.cell? (a.add (i * 4 + 2)) = some (.int .i64 z2) := by have := hat 2 (by omega); rw [Go.Deep.add_add] at this; exact this
        have a3 : w.cell? (a.add (i * 4 + 3)) = some (.slice Ai mi ci) := by have := hat 3 (by omega); rw [Go.Deep.add_add] at this; exact this
        obtain ⟨b, o, s⟩ := a
        have hs : s = none := by
          obtain ⟨cs0, hc0, _⟩ := hi 0 (by omega)
          rw [hC, Nat.zero_mul] at hc0
          obtain ⟨_, hl0, ha0⟩ := World.cells?_some hc0
          have h0 := ha0 0 (by omega)
          rw [Go.Deep.add_add, List.getElem?_eq_getElem (by omega)] at h0
          simpa [Addr.add] using World.cell?_spot h0
        subst hs
        simp only [addr_plain] at a0 a1 a2 a3
        have hlt := cell_lt a0
        have hmi : mi * 1 ≤ reachBytes := by
          rw [← hbu]
          refine hw3 _ fun x hx3 => hz x ?_
          have hD : D i = .agg [y0.1, y1.1, y2.1, y3.1] := by simp only [Prod.mk.injEq] at hy; exact hy.1
          have hw : x ∈ (D i).weights P e := by
            rw [hD]
            simp only [DataW.weights, he, List.map_cons, List.map_nil, DataW.weightsEach, List.mem_append]
            exact .inr (.inr (.inr (.inl hx3)))
          simp only [Prod.mk.injEq] at hx
          rw [hx.1]
          simp only [DataW.weights, ht]
          exact List.mem_cons_of_mem _ (List.mem_append_left _ (weights_all hw (List.mem_map.2 ⟨i, List.mem_range.2 hil, rfl⟩)))
        have hr := reachBytes_lt
        simp [Lit.wf, IntKind.min, IntKind.max, IntKind.signed, IntKind.bits] at wf1
        exact ⟨b, o, z0, z1, z2, Ai, mi, ci, zs.map (Value.int .u8), rfl, hlt, a0, a1, a2, a3, by omega, by omega, hL, by simpa using hlen, bytes_of_wf hwf, by omega⟩
end

end Go.Proofs.Ytdbnjlmkbmfhkaa
