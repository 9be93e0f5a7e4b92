/- Opening slices: of bytes, of structs; what the reach says of each part. -/
import Derived.Test.YtdbhfigdojkceaaOpenInts
import Derived.Test.YtdbhfigdojkceaaBytes
import Derived.Deep.Slices
import Derived.Deep.Fields
import Derived.SizedLaws
namespace Go.Proofs.Ytdbhfigdojkceaa
open Go.ChangeShapes Go.WideShapes Go.ChangeAt Go.RowKit

section
variable {H : Type} {enc : TypeId × Value → H} {P : Program}
theorem weights_all {e : TypeId} {d : DataW H} {n : Nat} (hn : n ∈ d.weights P e) : ∀ {l : List (DataW H)}, d ∈ l → n ∈ DataW.weightsAll P e l
  | [], h => (nomatch h)
  | a :: r, h => by
    rw [DataW.weightsAll]
    rcases List.mem_cons.1 h with h | h
    · subst h; exact List.mem_append_left _ hn
    · exact List.mem_append_right _ (weights_all hn h)

theorem cell_lt {w : World} {a : Addr} {v : Value} (h : w.cell? a = some v) : a.block < w.heap.size := by
  rcases Nat.lt_or_ge a.block w.heap.size with h1 | h1
  · exact h1
  · unfold World.cell? at h
    rw [Array.getElem?_eq_none h1] at h
    cases h

/-- A slice of numbers, at the value that a cell holds. -/
theorem open_nums {w : World} {t e : TypeId} {k : IntKind} {base fuel : Nat} {spare : Nat → Bool} {held : Bool} {v : Value} {x : DataW H × List MemPlace}
    (hs : P.underlying t = some (.slice e)) (he : P.underlying e = some (.int k)) (hC : P.cellsOf e = 1) (h : DataW.trod enc P w base spare held fuel t [v] = some x) :
    ∃ (A : Option Addr) (n c : Nat) (zs : List Int), v = .slice A n c ∧ zs.length = n ∧ n ≤ c ∧ c ≤ maxLen ∧ Lists w w.heap.size A (zs.map (Value.int k)) ∧ (∀ z ∈ zs, (Lit.int k z).wf = true) ∧
      ∀ b, (∀ m ∈ x.1.weights P t, m ≤ b) → n * P.bytesOf e ≤ b := by
  rcases open_ints hs he hC h with ⟨hcs, hx⟩ | ⟨a, len, cap, zs, hcs, _, hl, hm, hz, hx, hcell, hwf⟩
  · simp only [List.cons.injEq, and_true] at hcs
    exact ⟨none, 0, 0, [], hcs, rfl, Nat.le_refl _, Nat.zero_le _, Lists.empty _ _ _, (fun z hz => (nomatch hz)), fun b _ => by omega⟩
  · simp only [List.cons.injEq, and_true] at hcs
    have hlen : len ≤ zs.length := by split at hz <;> omega
    have hc : ∀ j u, ((zs.take len).map (Value.int k))[j]? = some u → w.cell? (a.add j) = some u := fun j u hu => by
      rw [List.getElem?_map, Option.map_eq_some_iff] at hu
      obtain ⟨z, hz1, rfl⟩ := hu
      have hj : j < (zs.take len).length := (List.getElem?_eq_some_iff.1 hz1).1
      have hj2 : j < zs.length := by simp at hj; omega
      rw [hcell j hj2]
      simp only [List.getElem?_take, List.length_take] at hz1 hj
      rw [if_pos (by omega)] at hz1
      simp [List.getD, hz1]
    refine ⟨some a, len, cap, zs.take len, hcs, by simp; omega, hl, hm, ⟨fun ha => (nomatch ha), fun a' ha => ?_, fun a' ha hne => ?_⟩, fun z hz' => hwf z (List.mem_of_mem_take hz'), fun b hb => ?_⟩
    · cases ha; exact hc
    · cases ha
      have h0 : 0 < ((zs.take len).map (Value.int k)).length := by
        rcases Nat.eq_zero_or_pos ((zs.take len).map (Value.int k)).length with h | h
        · exact absurd (List.eq_nil_of_length_eq_zero h) hne
        · exact h
      have := cell_lt (hc 0 _ (List.getElem?_eq_getElem h0))
      rwa [addr_add_block] at this
    · subst hx
      have := hb (((lits k (zs.take len) : List (DataW H)).length + (lits k (zs.drop len) : List (DataW H)).length) * P.bytesOf e) (by simp [DataW.weights, hs])
      refine Nat.le_trans (Nat.mul_le_mul_right _ ?_) this
      simp [lits]
      omega

theorem bytes_of_wf {zs : List Int} (h : ∀ z ∈ zs, (Lit.int .u8 z).wf = true) : Bytes8 (zs.map (Value.int .u8)) := fun u hu => by
  obtain ⟨z, hz, rfl⟩ := List.mem_map.1 hu
  have := h z hz
  simp [Lit.wf, IntKind.min, IntKind.max, IntKind.signed, IntKind.bits] at this
  exact ⟨z.toNat, by omega, by congr 1; omega⟩

theorem one_of {w : World} {base fuel : Nat} {spare : Nat → Bool} {held : Bool} {fs : Array Field} {cs : List Value} {ys : List (DataW H × List MemPlace)} (hone : Deep.oneCellFields P fs = true)
    (hg : ∀ (i : Nat) (f : Field), fs[i]? = some f → DataW.trod enc P w base spare held fuel f.type ((cs.drop f.offset).take (P.cellsOf f.type)) = ys[i]?) {j : Nat} {f : Field} {c : Value} {y : DataW H × List MemPlace}
    (hf : fs[j]? = some f) (hc : cs[j]? = some c) (hy : ys[j]? = some y) : DataW.trod enc P w base spare held fuel f.type [c] = some y := by
  have h := hg j f hf
  obtain ⟨h1, h2⟩ := Deep.hone_of hone j f hf
  obtain ⟨hj, hcj⟩ := List.getElem?_eq_some_iff.1 hc
  rw [h1, h2, hy, List.drop_eq_getElem_cons hj, hcj] at h
  exact h
end

end Go.Proofs.Ytdbhfigdojkceaa
