/- Part 7 of the proof of HeadsHeadReads: OpenNums, Conv, Met1, Met2, OpenMets, Law4, Hl, Hlives, Met17, Rr, Hr1. -/
import Derived.Deep.Slices
import Derived.Deep.Fields
import Derived.SizedLaws
import Derived.Laws.IdiomStrings
import Derived.Laws.BytesArg
import Derived.Lib.Hide
import Derived.Shelf.Abstract
import Derived.Lib.SmallJoins
import Derived.Deep.WholeRow
import Derived.Test.YtbomgaacahaofaaM5HeadsHeadReads

namespace Go.Proofs.Ytbomgaacahaofaa
open Go.ChangeShapes Go.WideShapes Go.ChangeAt Go.RowKit

section
variable {H : Type} {enc : TypeId × Value → H} {P : Program}
theorem weights_all {e : TypeId} {d : DataW H} {n : Nat} (hn : n ∈ d.weights P e) : ∀ {l : List (DataW H)}, d ∈ l → n ∈ DataW.weightsAll P e l
  | [], h => (nomatch h)
  | a :: r, h => by
    rw [DataW.weightsAll]
    rcases List.mem_cons.1 h with h | h
    · subst h; exact List.mem_append_left _ hn
    · exact List.mem_append_right _ (weights_all hn h)

theorem cell_lt {w : World} {a : Addr} {v : Value} (h : w.cell? a = some v) : a.block < w.heap.size := by
  rcases Nat.lt_or_ge a.block w.heap.size with h1 | h1
  · exact h1
  · unfold World.cell? at h
    rw [Array.getElem?_eq_none h1] at h
    cases h

/-- A slice of numbers, at the value that a cell holds. -/
theorem open_nums {w : World} {t e : TypeId} {k : IntKind} {base fuel : Nat} {spare : Nat → Bool} {held : Bool} {v : Value} {x : DataW H × List MemPlace}
    (hs : P.underlying t = some (.slice e)) (he : P.underlying e = some (.int k)) (hC : P.cellsOf e = 1) (h : DataW.trod enc P w base spare held fuel t [v] = some x) :
    ∃ (A : Option Addr) (n c : Nat) (zs : List Int), v = .slice A n c ∧ zs.length = n ∧ n ≤ c ∧ c ≤ maxLen ∧ Lists w w.heap.size A (zs.map (Value.int k)) ∧ (∀ z ∈ zs, (Lit.int k z).wf = true) ∧
      ∀ b, (∀ m ∈ x.1.weights P t, m ≤ b) → n * P.bytesOf e ≤ b := by
  rcases open_ints hs he hC h with ⟨hcs, hx⟩ | ⟨a, len, cap, zs, hcs, _, hl, hm, hz, hx, hcell, hwf⟩
  · simp only [List.cons.injEq, and_true] at hcs
    exact ⟨none, 0, 0, [], hcs, rfl, Nat.le_refl _, Nat.zero_le _, Lists.empty _ _ _, (fun z hz => (nomatch hz)), fun b _ => by omega⟩
  · simp only [List.cons.injEq, and_true] at hcs
    have hlen : len ≤ zs.length := by split at hz <;> omega
    have hc : ∀ j u, ((zs.take len).map (Value.int k))[j]? = some u → w.cell? (a.add j) = some u := fun j u hu => by
      rw [List.getElem?_map, Option.map_eq_some_iff] at hu
      obtain ⟨z, hz1, rfl⟩ := hu
      have hj : j < (zs.take len).length := (List.getElem?_eq_some_iff.1 hz1).1
      have hj2 : j < zs.length := by simp at hj; omega
      rw [hcell j hj2]
      simp only [List.getElem?_take, List.length_take] at hz1 hj
      rw [if_pos (by omega)] at hz1
      simp [List.getD, hz1]
    refine ⟨some a, len, cap, zs.take len, hcs, by simp; omega, hl, hm, ⟨fun ha => (nomatch ha), fun a' ha => ?_, fun a' ha hne => ?_⟩, fun z hz' => hwf z (List.mem_of_mem_take hz'), fun b hb => ?_⟩
    · cases ha; exact hc
    · cases ha
      have h0 : 0 < ((zs.take len).map (Value.int k)).length := by
        rcases Nat.eq_zero_or_pos ((zs.take len).map (Value.int k)).length with h | h
        · exact absurd (List.eq_nil_of_length_eq_zero h) hne
        · exact h
      have := cell_lt (hc 0 _ (List.getElem?_eq_getElem h0))
      rwa [addr_add_block] at this
    · subst hx
      have := hb (((lits k (zs.take len) : List (DataW H)).length + (lits k (zs.drop len) : List (DataW H)).length) * P.bytesOf e) (by simp [DataW.weights, hs])
      refine Nat.le_trans (Nat.mul_le_mul_right _ ?_) this
      simp [lits]
      omega

theorem bytes_of_wf {zs : List Int} (h : ∀ z ∈ zs, (Lit.int .u8 z).wf = true) : Bytes8 (zs.map (Value.int .u8)) := fun u hu => by
  obtain ⟨z, hz, rfl⟩ := List.mem_map.1 hu
  have := h z hz
  simp [Lit.wf, IntKind.min, IntKind.max, IntKind.signed, IntKind.bits] at this
  exact ⟨z.toNat, by omega, by congr 1; omega⟩

theorem one_of {w : World} {base fuel : Nat} {spare : Nat → Bool} {held : Bool} {fs : Array Field} {cs : List Value} {ys : List (DataW H × List MemPlace)} (hone : Deep.oneCellFields P fs = true)
    (hg : ∀ (i : Nat) (f : Field), fs[i]? = some f → DataW.trod enc P w base spare held fuel f.type ((cs.drop f.offset).take (P.cellsOf f.type)) = ys[i]?) {j : Nat} {f : Field} {c : Value} {y : DataW H × List MemPlace}
    (hf : fs[j]? = some f) (hc : cs[j]? = some c) (hy : ys[j]? = some y) : DataW.trod enc P w base spare held fuel f.type [c] = some y := by
  have h := hg j f hf
  obtain ⟨h1, h2⟩ := Deep.hone_of hone j f hf
  obtain ⟨hj, hcj⟩ := List.getElem?_eq_some_iff.1 hc
  rw [h1, h2, hy, List.drop_eq_getElem_cons hj, hcj] at h
  exact h
end

end Go.Proofs.Ytbomgaacahaofaa

namespace Go.Proofs.Ytbomgaacahaofaa
open Go Go.RowKit

/-- A cell of a byte, as a byte. -/
def toU8 : Value → UInt8
  | .int _ n => UInt8.ofNat n.toNat
  | _ => 0
set_option maxRecDepth 100000 in
/-- string(b) -/
theorem conv_lists {w : World} {B n c : Nat} {A : Option Addr} {E : List Value} (hl : Lists w B A E) (hn : E.length = n) (h8 : Bytes8 E) :
    ∀ dst, Try.prog.underlying dst = some .string → (convert 26 dst (.slice A n c)).run Try.prog w = .ok (.string ⟨(E.map toU8).toArray⟩) w := by
  intro dst hd
  cases A with
  | none =>
    rw [hl.nil rfl]
    exact run_convert_bytes_nil w 26 5 Try.underlying26 Try.underlying5 n c dst hd
  | some a =>
    have := run_convert_bytes_back (P := Try.prog) w 26 dst 5 a c (E.map toU8) Try.underlying26 Try.underlying5 hd (fun j hj => by
      rw [List.length_map] at hj
      obtain ⟨x, hx, he⟩ := h8 E[j] (List.getElem_mem hj)
      rw [hl.cell a rfl j E[j] (List.getElem?_eq_getElem hj)]
      simp only [List.getElem_map, he, toU8]
      congr 2
      rw [Int.toNat_natCast, UInt8.toNat_ofNat']
      congr 1
      omega)
    rw [List.length_map, hn] at this
    exact this

end Go.Proofs.Ytbomgaacahaofaa

namespace Go.Proofs.Ytbomgaacahaofaa
open Go Go.RowKit

/-- Is x from a to b? -/
def inB (a b x : Int) : Bool := decide (a ≤ x) && decide (x ≤ b)
theorem inB_yes {a b x : Int} (h1 : a ≤ x) (h2 : x ≤ b) : inB a b x = true := by simp [inB, h1, h2]
theorem inB_true {a b x : Int} (h : inB a b x = true) : a ≤ x ∧ x ≤ b := by simpa [inB] using h
theorem inB_false {a b x : Int} (h : inB a b x = false) : x < a ∨ b < x := by
  by_cases h1 : a ≤ x <;> by_cases h2 : x ≤ b
  · rw [inB_yes h1 h2] at h; cases h
  all_goals omega

/-- What IndexFunc answers of a list in which a predicate holds of one, or of none. -/
def Found {α : Type} (w : World) (L : List α) (p : α → Bool) (e : Ending) (w' : World) : Prop := ∃ r : Int, e = .returned (.int .i64 r) ∧ decide (0 ≤ r) = L.any p ∧ Below w.heap.size w w'
theorem any_snoc {α : Type} {L : List α} {p : α → Bool} {k : Nat} {x : α} (hx : L[k]? = some x) (h : (L.take k).any p = false) (ht : p x = false) : (L.take (k + 1)).any p = false := by
  rw [List.take_add_one, hx]
  simp only [Option.toList_some, List.any_append, h, List.any_cons, ht, List.any_nil, Bool.or_self]
theorem any_yes {α : Type} {L : List α} {p : α → Bool} {k : Nat} {x : α} (hx : L[k]? = some x) (ht : p x = true) : L.any p = true := by
  rw [List.any_eq_true]
  exact ⟨x, List.mem_of_getElem? hx, ht⟩

end Go.Proofs.Ytbomgaacahaofaa

namespace Go.Proofs.Ytbomgaacahaofaa
open Go Go.RowKit

/-- May n glyphs be, m of which have an advance of their own? -/
def cmB (n m : Int) : Bool := inB 1 65535 n && inB 1 n m
theorem cmB_true {n m : Int} (h : cmB n m = true) : 1 ≤ n ∧ n ≤ 65535 ∧ 1 ≤ m ∧ m ≤ n := by
  unfold cmB at h
  rw [Bool.and_eq_true] at h
  have := inB_true h.1
  have := inB_true h.2
  omega
theorem cmB_yes {n m : Int} (h1 : 1 ≤ n) (h2 : n ≤ 65535) (h3 : 1 ≤ m) (h4 : m ≤ n) : cmB n m = true := by
  unfold cmB; rw [inB_yes h1 h2, inB_yes h3 h4]; rfl

/-- Metrics as cells. -/
def metCells : List (Int × Int) → List Value
  | [] => []
  | (a, b) :: r => .int .i64 a :: .int .i64 b :: metCells r
theorem metCells_len : ∀ L : List (Int × Int), (metCells L).length = L.length * 2
  | [] => rfl
  | _ :: r => by simp only [metCells, List.length_cons, metCells_len r]; omega
theorem metCells_snoc (a b : Int) : ∀ L, metCells (L ++ [(a, b)]) = metCells L ++ [.int .i64 a, .int .i64 b]
  | [] => rfl
  | (_, _) :: r => by simp only [List.cons_append, metCells, metCells_snoc a b r]
theorem metCells_at : ∀ (L : List (Int × Int)) (k : Nat) (a b : Int), L[k]? = some (a, b) → (metCells L)[k * 2]? = some (.int .i64 a) ∧ (metCells L)[k * 2 + 1]? = some (.int .i64 b)
  | [], k, a, b, h => by simp at h
  | (x, y) :: r, 0, a, b, h => by
    simp only [List.getElem?_cons_zero, Option.some.injEq, Prod.mk.injEq] at h
    obtain ⟨rfl, rfl⟩ := h
    exact ⟨rfl, rfl⟩
  | (x, y) :: r, k + 1, a, b, h => by
    have := metCells_at r k a b (by simpa using h)
    rw [show (k + 1) * 2 = k * 2 + 1 + 1 by omega]
    exact this
theorem metCells_one : ∀ L : List (Int × Int), ∀ u ∈ metCells L, u.oneCell' = true
  | [], u, h => (nomatch h)
  | (x, y) :: r, u, h => by
    simp only [metCells, List.mem_cons] at h
    rcases h with rfl | rfl | h
    · rfl
    · rfl
    · exact metCells_one r u h

end Go.Proofs.Ytbomgaacahaofaa

namespace Go.Proofs.Ytbomgaacahaofaa
open Go.ChangeShapes Go.WideShapes Go.ChangeAt Go.RowKit

theorem choose_list {α : Type} {p : Nat → α → Prop} : ∀ {n : Nat}, (∀ i, i < n → ∃ x, p i x) → ∃ L : List α, L.length = n ∧ ∀ i x, L[i]? = some x → p i x
  | 0, _ => ⟨[], rfl, fun i x h => by simp at h⟩
  | n + 1, h => by
    obtain ⟨L, h1, h2⟩ := choose_list (n := n) fun i hi => h i (by omega)
    obtain ⟨x, hx⟩ := h n (by omega)
    refine ⟨L ++ [x], by simp [h1], fun i y hy => ?_⟩
    rcases Nat.lt_or_ge i n with hi | hi
    · rw [List.getElem?_append_left (by omega)] at hy
      exact h2 i y hy
    · rw [List.getElem?_append_right (by omega)] at hy
      have h3 : i - L.length = 0 := by
        rcases Nat.eq_zero_or_pos (i - L.length) with h | h
        · exact h
        · rw [List.getElem?_eq_none (by simp; omega)] at hy; cases hy
      rw [h3] at hy
      cases hy
      rw [show i = n by omega]
      exact hx

section
variable {H : Type} {enc : TypeId × Value → H} {P : Program}
theorem open_bytes {w : World} {t e : TypeId} {base : Nat} {spare : Nat → Bool} {held : Bool} {r : Reach} {b0 : Nat} {v : Value} {d : DataW H} {p : List MemPlace}
    (hs : P.underlying t = some (.slice e)) (he : P.underlying e = some (.int .u8)) (hC : P.cellsOf e = 1) (hb : P.bytesOf e = 1)
    (hv : Value.okWide P w r b0 t v) (h : DataW.Trod enc P w base spare held t v d p) (hz : ∀ m ∈ d.weights P t, m ≤ reachBytes) :
    ∃ (A : Option Addr) (c : Nat) (E : List Value), v = .slice A E.length c ∧ E.length ≤ c ∧ c ≤ 9223372036854775807 ∧ Lists w w.heap.size A E ∧ Bytes8 E ∧ E.length ≤ 140737488355328 := by
  obtain ⟨a0, len, cap, rfl⟩ := okWide_slice hs hv
  obtain ⟨fuel, hf⟩ := h
  rw [show (Value.slice a0 len cap).cells = #[.slice a0 len cap] from rfl] at hf
  obtain ⟨A, n, c, zs, hv1, hlen, hnc, hcm, hL, hwf, hw⟩ := open_nums hs he hC hf
  have h1 := hw reachBytes hz
  rw [hb] at h1
  have hr := reachBytes_lt
  unfold maxLen at hcm
  refine ⟨A, c, zs.map (Value.int .u8), by rw [List.length_map, hlen]; exact hv1, by rw [List.length_map]; omega, hcm, hL, bytes_of_wf hwf, by rw [List.length_map]; omega⟩

theorem open_mets {w : World} {t e : TypeId} {f0 f1 : Field} {base : Nat} {spare : Nat → Bool} {held : Bool} {r : Reach} {b0 : Nat} {v : Value} {d : DataW H} {p : List MemPlace}
    (ht : P.underlying t = some (.slice e)) (he : P.underlying e = some (.struct #[f0, f1])) (hone : Deep.oneCellFields P #[f0, f1] = true) (hC : P.cellsOf e = 2)
    (i0 : P.underlying f0.type = some (.int .i64)) (i1 : P.underlying f1.type = some (.int .i64))
    (hv : Value.okWide P w r b0 t v) (h : DataW.Trod enc P w base spare held t v d p) :
    ∃ (A : Option Addr) (c : Nat) (L : List (Int × Int)), v = .slice A L.length c ∧ L.length ≤ c ∧ c ≤ 9223372036854775807 ∧ Lists w w.heap.size A (metCells L) := by
  obtain ⟨a0, len, cap, rfl⟩ := okWide_slice ht hv
  obtain ⟨fuel, hf⟩ := h
  rcases Deep.open_slice ht hf with ⟨hcs, _⟩ | ⟨a, len', cap', m, n, D, Pl, hcs, hb, hl, hm, hmm, hx, hi⟩
  · simp [Value.cells] at hcs
    obtain ⟨rfl, rfl, rfl⟩ := hcs
    exact ⟨none, 0, [], rfl, Nat.le_refl _, Nat.zero_le _, Lists.empty _ _ _⟩
  · simp [Value.cells] at hcs
    obtain ⟨rfl, rfl, rfl⟩ := hcs
    unfold maxLen at hm
    have hlm : len ≤ m := by split at hmm <;> omega
    obtain ⟨L, hLl, hL⟩ := choose_list (n := len) (p := fun i (q : Int × Int) => w.cell? (a.add (i * 2)) = some (.int .i64 q.1) ∧ w.cell? (a.add (i * 2 + 1)) = some (.int .i64 q.2)) fun i hil => by
      obtain ⟨cs', hc, ht'⟩ := hi i (by omega)
      rw [hC] at hc
      obtain ⟨ys, n', _, hy, _, hyl, hg⟩ := DataW.trod_struct he ht'
      obtain ⟨_, hcl, hat⟩ := World.cells?_some hc
      match cs', hcl with
      | [c0, c1], _ =>
        match ys, hyl with
        | [y0, y1], _ =>
          have k0 := one_of hone hg (j := 0) rfl rfl rfl
          have k1 := one_of hone hg (j := 1) rfl rfl rfl
          obtain ⟨z0, e0, _, _⟩ := DataW.trod_int i0 k0
          obtain ⟨z1, e1, _, _⟩ := DataW.trod_int i1 k1
          simp only [List.cons.injEq, and_true] at e0 e1
          subst e0 e1
          have a0 : w.cell? (a.add (i * 2)) = some (.int .i64 z0) := by have := hat 0 (by omega); rw [Go.Deep.add_add] at this; exact this
          have a1 : w.cell? (a.add (i * 2 + 1)) = some (.int .i64 z1) := by have := hat 1 (by omega); rw [Go.Deep.add_add] at this; exact this
          exact ⟨(z0, z1), a0, a1⟩
    have hcell : ∀ j u, (metCells L)[j]? = some u → w.cell? (a.add j) = some u := fun j u hu => by
      have hj : j < L.length * 2 := by
        rcases Nat.lt_or_ge j (L.length * 2) with h | h
        · exact h
        · rw [List.getElem?_eq_none (by rw [metCells_len]; exact h)] at hu; cases hu
      obtain ⟨q, hq⟩ : ∃ q, L[j / 2]? = some q := ⟨L[j / 2]'(by omega), List.getElem?_eq_getElem _⟩
      obtain ⟨h1, h2⟩ := metCells_at L (j / 2) q.1 q.2 hq
      obtain ⟨h3, h4⟩ := hL _ _ hq
      rcases Nat.mod_two_eq_zero_or_one j with h | h
      · rw [show j / 2 * 2 = j by omega] at h1 h3
        rw [h1] at hu; cases hu; exact h3
      · rw [show j / 2 * 2 + 1 = j by omega] at h2 h4
        rw [h2] at hu; cases hu; exact h4
    refine ⟨some a, cap, L, by rw [hLl], by omega, hm, ⟨fun ha => (nomatch ha), fun a' ha => ?_, fun a' ha hne => ?_⟩⟩
    · cases ha; exact hcell
    · cases ha
      have h0 : 0 < (metCells L).length := by
        rcases Nat.eq_zero_or_pos (metCells L).length with h | h
        · exact absurd (List.eq_nil_of_length_eq_zero h) hne
        · exact h
      have := cell_lt (hcell 0 _ (List.getElem?_eq_getElem h0))
      rwa [addr_add_block] at this
end

end Go.Proofs.Ytbomgaacahaofaa

namespace Go.Proofs.Ytbomgaacahaofaa
open Go.ChangeShapes Go.WideShapes Go.ChangeAt Go.RowKit Go.Deep

section
variable {H : Type} {enc : TypeId × Value → H} {P : Program}
theorem open_four {w : World} {t : TypeId} {f0 f1 f2 f3 : Field} {base : Nat} {spare : Nat → Bool} {held : Bool} {r : Reach} {b0 : Nat} {v : Value} {d : DataW H} {p : List MemPlace}
    (hs : P.underlying t = some (.struct #[f0, f1, f2, f3])) (hone : oneCellFields P #[f0, f1, f2, f3] = true) (hC : P.cellsOf t = 4)
    (u0 : P.underlying f0.type = some (.int .i64)) (u1 : P.underlying f1.type = some (.int .i64)) (u2 : P.underlying f2.type = some (.int .i64)) (u3 : P.underlying f3.type = some (.int .i64))
    (hv : Value.okWide P w r b0 t v) (h : DataW.Trod enc P w base spare held t v d p) :
    ∃ a b c e : Int, v = .agg #[.int .i64 a, .int .i64 b, .int .i64 c, .int .i64 e] ∧ (Lit.int .i64 a).wf = true ∧ (Lit.int .i64 b).wf = true ∧ (Lit.int .i64 c).wf = true ∧ (Lit.int .i64 e).wf = true := by
  obtain ⟨v0, v1, v2, v3, y0, y1, y2, y3, n, rfl, _, _, h0, h1, h2, h3⟩ := Joins.open_agg4 hs hone hC hv h
  obtain ⟨a, e0, _, wa⟩ := DataW.trod_int u0 h0
  obtain ⟨b, e1, _, wb⟩ := DataW.trod_int u1 h1
  obtain ⟨c, e2, _, wc⟩ := DataW.trod_int u2 h2
  obtain ⟨e, e3, _, we⟩ := DataW.trod_int u3 h3
  simp at e0 e1 e2 e3
  subst e0 e1 e2 e3
  exact ⟨a, b, c, e, rfl, wa, wb, wc, we⟩
end

theorem Try.cellsB : Try.prog.cellsOf 23 = 4 := by kernel_rfl

end Go.Proofs.Ytbomgaacahaofaa

namespace Go.Proofs.Ytbomgaacahaofaa
open Go Go.RowKit

set_option linter.unusedVariables false
set_option linter.unusedSimpArgs false

theorem hPutLines_yes (a0 a1 a2 a3 : Int) (w : World) (h : mayL a0 a1 a2 a3 = true) : Calls Try.prog 19 #[.agg #[.int .i64 a0, .int .i64 a1, .int .i64 a2, .int .i64 a3]] w (Gave w (putLs a0 a1 a2 a3)) := by
  refine (hPutLines_any a0 a1 a2 a3 w).mono fun e w' k => ?_
  have r := wrL_run a0 a1 a2 a3
  rw [← r.2 h]
  exact k.1 (r.1.trans h)
theorem hPutLines_no (a0 a1 a2 a3 : Int) (w : World) (h : mayL a0 a1 a2 a3 = false) : Calls Try.prog 19 #[.agg #[.int .i64 a0, .int .i64 a1, .int .i64 a2, .int .i64 a3]] w fun e w' => e = .returned (.tuple #[.slice none 0 0, .int .i64 1]) ∧ Below w.heap.size w w' := by
  refine (hPutLines_any a0 a1 a2 a3 w).mono fun e w' k => ?_
  have r := wrL_run a0 a1 a2 a3
  exact k.2 (r.1.trans h)
theorem hLines_yes (A : Option Addr) (c : Nat) (E : List Value) (w : World) (hE : Lists w w.heap.size A E) (h8 : Bytes8 E) (hc : E.length ≤ c) (hc2 : c ≤ 9223372036854775807) (hm : E.length ≤ 140737488355328) (h : okL E = true) (v : Array Value) (hv : valL E = .agg v) : Calls Try.prog 21 #[.slice A E.length c] w fun e w' => e = .returned (.tuple #[.agg v, .int .i64 0]) ∧ Below w.heap.size w w' := by
  refine (hLines_any A c E w hE h8 hc hc2 hm).mono fun e w' k => ?_
  have r := rdL_eq E h8
  unfold GotR at k
  rw [r.1, h, if_pos rfl, if_pos rfl, r.2 h, hv] at k
  exact k
theorem hLines_no (A : Option Addr) (c : Nat) (E : List Value) (w : World) (hE : Lists w w.heap.size A E) (h8 : Bytes8 E) (hc : E.length ≤ c) (hc2 : c ≤ 9223372036854775807) (hm : E.length ≤ 140737488355328) (h : okL E = false) : Calls Try.prog 21 #[.slice A E.length c] w fun e w' => e = .returned (.tuple #[.agg zL, .int .i64 52]) ∧ Below w.heap.size w w' := by
  refine (hLines_any A c E w hE h8 hc hc2 hm).mono fun e w' k => ?_
  have r := rdL_eq E h8
  unfold GotR at k
  rw [r.1, h, if_neg (by simp), if_neg (by simp)] at k
  exact k
theorem eqL_same (a0 a1 a2 a3 : Int) (w : World) : (binOp .eql 50 (.agg #[.int .i64 a0, .int .i64 a1, .int .i64 a2, .int .i64 a3]) (.agg #[.int .i64 a0, .int .i64 a1, .int .i64 a2, .int .i64 a3])).run Try.prog w = .ok (.bool true) w := by
  have hS : Try.prog.underlying 50 = some (.struct (Try.prog.fieldsOf 50)) := by kernel_rfl
  have hp : Try.prog.stoodInHeld 50 = false := by kernel_rfl
  have u3 := Try.underlying3
  have a3 := Try.isAgg3
  have z3 := Try.sizeOf3
  have u4 := Try.underlying4
  have a4 := Try.isAgg4
  have z4 := Try.sizeOf4
  skip
  rw [run_eql_struct, show (10000 : Nat) = 9999 + 1 from rfl, run_equalIn_agg w 9999 50 _ _ hS hp]
  simp only [Program.fieldsOf, Try.underlying50]
  go_simp
theorem eqgL (a0 a1 a2 a3 : Int) (x y : Operand) (w : World) : (eqGuard .eql 50 x y (.agg #[.int .i64 a0, .int .i64 a1, .int .i64 a2, .int .i64 a3]) (.agg #[.int .i64 a0, .int .i64 a1, .int .i64 a2, .int .i64 a3])).run Try.prog w = .ok () w :=
  run_eqGuard_agg w .eql 50 x y _ _ (by kernel_rfl)

theorem hPutHead_yes (a0 a1 a2 a3 a4 a5 a6 a7 : Int) (b8 : Bool) (w : World) (h : mayH a0 a1 a2 a3 a4 a5 a6 a7 = true) : Calls Try.prog 8 #[.agg #[.int .i64 a0, .int .i64 a1, .int .i64 a2, .int .i64 a3, .int .i64 a4, .int .i64 a5, .int .i64 a6, .int .i64 a7, .bool b8]] w (Gave w (putHs a0 a1 a2 a3 a4 a5 a6 a7 b8)) := by
  refine (hPutHead_any a0 a1 a2 a3 a4 a5 a6 a7 b8 w).mono fun e w' k => ?_
  have r := wrH_run a0 a1 a2 a3 a4 a5 a6 a7 b8
  rw [← r.2 h]
  exact k.1 (r.1.trans h)
theorem hPutHead_no (a0 a1 a2 a3 a4 a5 a6 a7 : Int) (b8 : Bool) (w : World) (h : mayH a0 a1 a2 a3 a4 a5 a6 a7 = false) : Calls Try.prog 8 #[.agg #[.int .i64 a0, .int .i64 a1, .int .i64 a2, .int .i64 a3, .int .i64 a4, .int .i64 a5, .int .i64 a6, .int .i64 a7, .bool b8]] w fun e w' => e = .returned (.tuple #[.slice none 0 0, .int .i64 1]) ∧ Below w.heap.size w w' := by
  refine (hPutHead_any a0 a1 a2 a3 a4 a5 a6 a7 b8 w).mono fun e w' k => ?_
  have r := wrH_run a0 a1 a2 a3 a4 a5 a6 a7 b8
  exact k.2 (r.1.trans h)
theorem hHead_yes (A : Option Addr) (c : Nat) (E : List Value) (w : World) (hE : Lists w w.heap.size A E) (h8 : Bytes8 E) (hc : E.length ≤ c) (hc2 : c ≤ 9223372036854775807) (hm : E.length ≤ 140737488355328) (h : okH E = true) (v : Array Value) (hv : valH E = .agg v) : Calls Try.prog 11 #[.slice A E.length c] w fun e w' => e = .returned (.tuple #[.agg v, .int .i64 0]) ∧ Below w.heap.size w w' := by
  refine (hHead_any A c E w hE h8 hc hc2 hm).mono fun e w' k => ?_
  have r := rdH_eq E h8
  unfold GotR at k
  rw [r.1, h, if_pos rfl, if_pos rfl, r.2 h, hv] at k
  exact k
theorem hHead_no (A : Option Addr) (c : Nat) (E : List Value) (w : World) (hE : Lists w w.heap.size A E) (h8 : Bytes8 E) (hc : E.length ≤ c) (hc2 : c ≤ 9223372036854775807) (hm : E.length ≤ 140737488355328) (h : okH E = false) : Calls Try.prog 11 #[.slice A E.length c] w fun e w' => e = .returned (.tuple #[.agg zH, .int .i64 50]) ∧ Below w.heap.size w w' := by
  refine (hHead_any A c E w hE h8 hc hc2 hm).mono fun e w' k => ?_
  have r := rdH_eq E h8
  unfold GotR at k
  rw [r.1, h, if_neg (by simp), if_neg (by simp)] at k
  exact k
theorem eqH_same (a0 a1 a2 a3 a4 a5 a6 a7 : Int) (b8 : Bool) (w : World) : (binOp .eql 25 (.agg #[.int .i64 a0, .int .i64 a1, .int .i64 a2, .int .i64 a3, .int .i64 a4, .int .i64 a5, .int .i64 a6, .int .i64 a7, .bool b8]) (.agg #[.int .i64 a0, .int .i64 a1, .int .i64 a2, .int .i64 a3, .int .i64 a4, .int .i64 a5, .int .i64 a6, .int .i64 a7, .bool b8])).run Try.prog w = .ok (.bool true) w := by
  have hS : Try.prog.underlying 25 = some (.struct (Try.prog.fieldsOf 25)) := by kernel_rfl
  have hp : Try.prog.stoodInHeld 25 = false := by kernel_rfl
  have u3 := Try.underlying3
  have a3 := Try.isAgg3
  have z3 := Try.sizeOf3
  have u4 := Try.underlying4
  have a4 := Try.isAgg4
  have z4 := Try.sizeOf4
  have u5 := Try.underlying23; have a5 := Try.isAgg23; have z5 := Try.sizeOf23
  rw [run_eql_struct, show (10000 : Nat) = 9999 + 1 from rfl, run_equalIn_agg w 9999 25 _ _ hS hp]
  simp only [Program.fieldsOf, Try.underlying25]
  go_simp
theorem eqgH (a0 a1 a2 a3 a4 a5 a6 a7 : Int) (b8 : Bool) (x y : Operand) (w : World) : (eqGuard .eql 25 x y (.agg #[.int .i64 a0, .int .i64 a1, .int .i64 a2, .int .i64 a3, .int .i64 a4, .int .i64 a5, .int .i64 a6, .int .i64 a7, .bool b8]) (.agg #[.int .i64 a0, .int .i64 a1, .int .i64 a2, .int .i64 a3, .int .i64 a4, .int .i64 a5, .int .i64 a6, .int .i64 a7, .bool b8])).run Try.prog w = .ok () w :=
  run_eqGuard_agg w .eql 25 x y _ _ (by kernel_rfl)

theorem hPutGlyphs_yes (a0 : Int) (b1 : Bool) (w : World) (h : mayG a0 = true) : Calls Try.prog 14 #[.agg #[.int .i64 a0, .bool b1]] w (Gave w (putGs a0 b1)) := by
  refine (hPutGlyphs_any a0 b1 w).mono fun e w' k => ?_
  have r := wrG_run a0 b1
  rw [← r.2 h]
  exact k.1 (r.1.trans h)
theorem hPutGlyphs_no (a0 : Int) (b1 : Bool) (w : World) (h : mayG a0 = false) : Calls Try.prog 14 #[.agg #[.int .i64 a0, .bool b1]] w fun e w' => e = .returned (.tuple #[.slice none 0 0, .int .i64 1]) ∧ Below w.heap.size w w' := by
  refine (hPutGlyphs_any a0 b1 w).mono fun e w' k => ?_
  have r := wrG_run a0 b1
  exact k.2 (r.1.trans h)
theorem hGlyphs_yes (A : Option Addr) (c : Nat) (E : List Value) (w : World) (hE : Lists w w.heap.size A E) (h8 : Bytes8 E) (hc : E.length ≤ c) (hc2 : c ≤ 9223372036854775807) (hm : E.length ≤ 140737488355328) (h : okG E = true) (v : Array Value) (hv : valG E = .agg v) : Calls Try.prog 15 #[.slice A E.length c] w fun e w' => e = .returned (.tuple #[.agg v, .int .i64 0]) ∧ Below w.heap.size w w' := by
  refine (hGlyphs_any A c E w hE h8 hc hc2 hm).mono fun e w' k => ?_
  have r := rdG_eq E h8
  unfold GotR at k
  rw [r.1, h, if_pos rfl, if_pos rfl, r.2 h, hv] at k
  exact k
theorem hGlyphs_no (A : Option Addr) (c : Nat) (E : List Value) (w : World) (hE : Lists w w.heap.size A E) (h8 : Bytes8 E) (hc : E.length ≤ c) (hc2 : c ≤ 9223372036854775807) (hm : E.length ≤ 140737488355328) (h : okG E = false) : Calls Try.prog 15 #[.slice A E.length c] w fun e w' => e = .returned (.tuple #[.agg zG, .int .i64 51]) ∧ Below w.heap.size w w' := by
  refine (hGlyphs_any A c E w hE h8 hc hc2 hm).mono fun e w' k => ?_
  have r := rdG_eq E h8
  unfold GotR at k
  rw [r.1, h, if_neg (by simp), if_neg (by simp)] at k
  exact k
theorem eqG_same (a0 : Int) (b1 : Bool) (w : World) : (binOp .eql 40 (.agg #[.int .i64 a0, .bool b1]) (.agg #[.int .i64 a0, .bool b1])).run Try.prog w = .ok (.bool true) w := by
  have hS : Try.prog.underlying 40 = some (.struct (Try.prog.fieldsOf 40)) := by kernel_rfl
  have hp : Try.prog.stoodInHeld 40 = false := by kernel_rfl
  have u3 := Try.underlying3
  have a3 := Try.isAgg3
  have z3 := Try.sizeOf3
  have u4 := Try.underlying4
  have a4 := Try.isAgg4
  have z4 := Try.sizeOf4
  skip
  rw [run_eql_struct, show (10000 : Nat) = 9999 + 1 from rfl, run_equalIn_agg w 9999 40 _ _ hS hp]
  simp only [Program.fieldsOf, Try.underlying40]
  go_simp
theorem eqgG (a0 : Int) (b1 : Bool) (x y : Operand) (w : World) : (eqGuard .eql 40 x y (.agg #[.int .i64 a0, .bool b1]) (.agg #[.int .i64 a0, .bool b1])).run Try.prog w = .ok () w :=
  run_eqGuard_agg w .eql 40 x y _ _ (by kernel_rfl)

end Go.Proofs.Ytbomgaacahaofaa

namespace Go.Proofs.Ytbomgaacahaofaa
open Go Go.RowKit

set_option linter.unusedVariables false
set_option linter.unusedSimpArgs false

theorem own_cap {w : World} {base : Nat} {A : Option Addr} {n c : Nat} {xs : List Value} {T : TypeId} (h : w.ownsRow base T 1 (.slice A n c) n xs) : c ≤ 9223372036854775807 := by
  rcases h.2 with ⟨h, _⟩ | ⟨g, cap, cur, h, _, _, _, h7, _⟩
  · injection h with _ _ h; omega
  · injection h with _ _ h
    unfold maxLen at h7
    omega
/-- A table was put: its bytes, as they may be read. -/
def GaveL (w : World) (n : Nat) (L : List Value) (e : Ending) (w' : World) : Prop := ∃ A c, e = .returned (.tuple #[.slice A n c, .int .i64 0]) ∧ Lists w' w'.heap.size A L ∧ n ≤ c ∧ c ≤ 9223372036854775807 ∧ Below w.heap.size w w'
theorem Gave.l {w : World} {L : List Value} {e : Ending} {w' : World} (h : Gave w L e w') {n : Nat} (hn : L.length = n) : GaveL w n L e w' := by
  subst hn
  obtain ⟨A, c, he, ho, hb⟩ := h
  have hc := own_cap ho
  obtain ⟨A1, c1, hv, hl, hc1⟩ := own_lists ho
  injection hv with h1 _ h3
  subst h1 h3
  exact ⟨A, c, he, hl, hc1, hc, hb⟩
theorem hLines_at (A : Option Addr) (c n : Nat) (E : List Value) (w : World) (hn : E.length = n) (hE : Lists w w.heap.size A E) (h8 : Bytes8 E) (hc : n ≤ c) (hc2 : c ≤ 9223372036854775807) (hm : n ≤ 140737488355328) (h : okL E = true) (v : Array Value) (hv : valL E = .agg v) : Calls Try.prog 21 #[.slice A n c] w fun e w' => e = .returned (.tuple #[.agg v, .int .i64 0]) ∧ Below w.heap.size w w' := by
  subst hn
  exact hLines_yes A c E w hE h8 hc hc2 hm h v hv
theorem hHead_at (A : Option Addr) (c n : Nat) (E : List Value) (w : World) (hn : E.length = n) (hE : Lists w w.heap.size A E) (h8 : Bytes8 E) (hc : n ≤ c) (hc2 : c ≤ 9223372036854775807) (hm : n ≤ 140737488355328) (h : okH E = true) (v : Array Value) (hv : valH E = .agg v) : Calls Try.prog 11 #[.slice A n c] w fun e w' => e = .returned (.tuple #[.agg v, .int .i64 0]) ∧ Below w.heap.size w w' := by
  subst hn
  exact hHead_yes A c E w hE h8 hc hc2 hm h v hv
theorem hGlyphs_at (A : Option Addr) (c n : Nat) (E : List Value) (w : World) (hn : E.length = n) (hE : Lists w w.heap.size A E) (h8 : Bytes8 E) (hc : n ≤ c) (hc2 : c ≤ 9223372036854775807) (hm : n ≤ 140737488355328) (h : okG E = true) (v : Array Value) (hv : valG E = .agg v) : Calls Try.prog 15 #[.slice A n c] w fun e w' => e = .returned (.tuple #[.agg v, .int .i64 0]) ∧ Below w.heap.size w w' := by
  subst hn
  exact hGlyphs_yes A c E w hE h8 hc hc2 hm h v hv
theorem lPutH (w : World) : Calls Try.prog 8 #[.agg #[.int .i64 1000, .int .i64 0, .int .i64 0, .int .i64 0, .int .i64 0, .int .i64 0, .int .i64 0, .int .i64 0, .bool true]] w (GaveL w 54 (putHs 1000 0 0 0 0 0 0 0 true)) := (hPutHead_yes 1000 0 0 0 0 0 0 0 true w (by decide)).mono fun e w' h => h.l (by rfl)
theorem lGetH (A : Option Addr) (c : Nat) (w : World) (hE : Lists w w.heap.size A (putHs 1000 0 0 0 0 0 0 0 true)) (hc : 54 ≤ c) (hc2 : c ≤ 9223372036854775807) : Calls Try.prog 11 #[.slice A 54 c] w fun e w' => e = .returned (.tuple #[.agg #[.int .i64 1000, .int .i64 0, .int .i64 0, .int .i64 0, .int .i64 0, .int .i64 0, .int .i64 0, .int .i64 0, .bool true], .int .i64 0]) ∧ Below w.heap.size w w' := by
  have hb := backH 1000 0 0 0 0 0 0 0 true [] (by decide)
  rw [List.append_nil] at hb
  exact hHead_at A c 54 _ w (by rfl) hE (putHs_bytes 1000 0 0 0 0 0 0 0 true) hc hc2 (by omega) hb.1 _ hb.2
theorem lPutG (w : World) : Calls Try.prog 14 #[.agg #[.int .i64 3, .bool false]] w (GaveL w 6 (putGs 3 false)) := (hPutGlyphs_yes 3 false w (by decide)).mono fun e w' h => h.l (by rfl)
theorem lGetG (A : Option Addr) (c : Nat) (w : World) (hE : Lists w w.heap.size A (putGs 3 false)) (hc : 6 ≤ c) (hc2 : c ≤ 9223372036854775807) : Calls Try.prog 15 #[.slice A 6 c] w fun e w' => e = .returned (.tuple #[.agg #[.int .i64 3, .bool false], .int .i64 0]) ∧ Below w.heap.size w w' := by
  have hb := backG 3 false [] (by decide)
  rw [List.append_nil] at hb
  exact hGlyphs_at A c 6 _ w (by rfl) hE (putGs_bytes 3 false) hc hc2 (by omega) hb.1 _ hb.2
theorem lPutL (w : World) : Calls Try.prog 19 #[.agg #[.int .i64 800, .int .i64 (-200), .int .i64 0, .int .i64 2]] w (GaveL w 36 (putLs 800 (-200) 0 2)) := (hPutLines_yes 800 (-200) 0 2 w (by decide)).mono fun e w' h => h.l (by rfl)
theorem lGetL (A : Option Addr) (c : Nat) (w : World) (hE : Lists w w.heap.size A (putLs 800 (-200) 0 2)) (hc : 36 ≤ c) (hc2 : c ≤ 9223372036854775807) : Calls Try.prog 21 #[.slice A 36 c] w fun e w' => e = .returned (.tuple #[.agg #[.int .i64 800, .int .i64 (-200), .int .i64 0, .int .i64 2], .int .i64 0]) ∧ Below w.heap.size w w' := by
  have hb := backL 800 (-200) 0 2 [] (by decide)
  rw [List.append_nil] at hb
  exact hLines_at A c 36 _ w (by rfl) hE (putLs_bytes 800 (-200) 0 2) hc hc2 (by omega) hb.1 _ hb.2
theorem lNone (w : World) : Calls Try.prog 11 #[.slice none 0 0] w fun e w' => e = .returned (.tuple #[.agg #[.int .i64 0, .int .i64 0, .int .i64 0, .int .i64 0, .int .i64 0, .int .i64 0, .int .i64 0, .int .i64 0, .bool false], .int .i64 50]) ∧ Below w.heap.size w w' :=
  hHead_no none 0 [] w (Lists.empty _ _ _) (fun u hu => (by cases hu)) (Nat.le_refl _) (by omega) (by simp) (by rfl)

set_option maxRecDepth 100000 in
set_option maxHeartbeats 16000000 in
theorem lives5 (w : World) : Calls Try.prog 9 #[] w fun e w' => e = .returned (.bool true) ∧ Below w.heap.size w w' := by
  have B0 : Below w.heap.size w w := Below.refl _ _
  have q1 := eqH_same 1000 0 0 0 0 0 0 0 true
  have q2 := eqgH 1000 0 0 0 0 0 0 0 true
  go_enter Try.func9, Try.ntmps9
  go_wp2_with (first | (go_at_call 8; ((with_reducible refine (lPutH _).mono ?_); rintro e w1 ⟨A1, c1, rfl, l1, k1, m1, b1⟩; have B1 := Below.trans B0 (b1.mono (Below.size B0)))) | (go_at_call 11; ((with_reducible refine (lGetH A1 c1 _ l1 k1 m1).mono ?_); rintro e w2 ⟨rfl, b2⟩; have B2 := Below.trans B1 (b2.mono (Below.size B1)); have B2a := B2.alloc (Below.size B2) (.cells #[.int .i64 1000, .int .i64 0, .int .i64 0, .int .i64 0, .int .i64 0, .int .i64 0, .int .i64 0, .int .i64 0, .bool true] 25); have X2 : Blk (w2.alloc (.cells #[.int .i64 1000, .int .i64 0, .int .i64 0, .int .i64 0, .int .i64 0, .int .i64 0, .int .i64 0, .int .i64 0, .bool true] 25)) w2.heap.size 25 #[.int .i64 1000, .int .i64 0, .int .i64 0, .int .i64 0, .int .i64 0, .int .i64 0, .int .i64 0, .int .i64 0, .bool true] := Blk.new _ _ _; have a2 : Below w2.heap.size w2 (w2.alloc (.cells #[.int .i64 1000, .int .i64 0, .int .i64 0, .int .i64 0, .int .i64 0, .int .i64 0, .int .i64 0, .int .i64 0, .bool true] 25)) := (Below.refl _ _).alloc (Nat.le_refl _) _)) | (refine wpList_store_row rfl 25 (.tmp 3) (.tmp 23) (by with_reducible rfl) w2.heap.size #[.int .i64 1000, .int .i64 0, .int .i64 0, .int .i64 0, .int .i64 0, .int .i64 0, .int .i64 0, .int .i64 0, .bool true] (by rfl) (by rfl) 25 #[.int .i64 0, .int .i64 0, .int .i64 0, .int .i64 0, .int .i64 0, .int .i64 0, .int .i64 0, .int .i64 0, .bool false] (Blk.new _ _ _) sizH rfl (by simp [Value.oneCell']) ?_; rw [World.setRow_alloc_new]) | (go_at_call 14; ((with_reducible refine (lPutG _).mono ?_); rintro e w3 ⟨A3, c3, rfl, l3, k3, m3, b3⟩; have B3 := Below.trans B2a (b3.mono (Below.size B2a)))) | (go_at_call 15; ((with_reducible refine (lGetG A3 c3 _ l3 k3 m3).mono ?_); rintro e w4 ⟨rfl, b4⟩; have B4 := Below.trans B3 (b4.mono (Below.size B3)); have B4a := B4.alloc (Below.size B4) (.cells #[.int .i64 3, .bool false] 40); have X4 : Blk (w4.alloc (.cells #[.int .i64 3, .bool false] 40)) w4.heap.size 40 #[.int .i64 3, .bool false] := Blk.new _ _ _; have a4 : Below w4.heap.size w4 (w4.alloc (.cells #[.int .i64 3, .bool false] 40)) := (Below.refl _ _).alloc (Nat.le_refl _) _)) | (refine wpList_store_row rfl 40 (.tmp 7) (.tmp 33) (by with_reducible rfl) w4.heap.size #[.int .i64 3, .bool false] (by rfl) (by rfl) 40 #[.int .i64 0, .bool false] (Blk.new _ _ _) sizG rfl (by simp [Value.oneCell']) ?_; rw [World.setRow_alloc_new]) | (go_at_call 19; ((with_reducible refine (lPutL _).mono ?_); rintro e w5 ⟨A5, c5, rfl, l5, k5, m5, b5⟩; have B5 := Below.trans B4a (b5.mono (Below.size B4a)))) | (go_at_call 21; ((with_reducible refine (lGetL A5 c5 _ l5 k5 m5).mono ?_); rintro e w6 ⟨rfl, b6⟩; have B6 := Below.trans B5 (b6.mono (Below.size B5)); have B6a := B6.alloc (Below.size B6) (.cells #[.int .i64 800, .int .i64 (-200), .int .i64 0, .int .i64 2] 50); have X6 : Blk (w6.alloc (.cells #[.int .i64 800, .int .i64 (-200), .int .i64 0, .int .i64 2] 50)) w6.heap.size 50 #[.int .i64 800, .int .i64 (-200), .int .i64 0, .int .i64 2] := Blk.new _ _ _; have a6 : Below w6.heap.size w6 (w6.alloc (.cells #[.int .i64 800, .int .i64 (-200), .int .i64 0, .int .i64 2] 50)) := (Below.refl _ _).alloc (Nat.le_refl _) _)) | (refine wpList_store_row rfl 50 (.tmp 11) (.tmp 43) (by with_reducible rfl) w6.heap.size #[.int .i64 800, .int .i64 (-200), .int .i64 0, .int .i64 2] (by rfl) (by rfl) 50 #[.int .i64 0, .int .i64 0, .int .i64 0, .int .i64 0] (Blk.new _ _ _) sizL rfl (by simp [Value.oneCell']) ?_; rw [World.setRow_alloc_new]) | (go_at_call 11; ((with_reducible refine (lNone _).mono ?_); rintro e w7 ⟨rfl, b7⟩; have B7 := B6a.trans (b7.mono B6a.size); have B7a := B7.alloc B7.size (.cells #[.int .i64 0, .int .i64 0, .int .i64 0, .int .i64 0, .int .i64 0, .int .i64 0, .int .i64 0, .int .i64 0, .bool false] 25); have a7 : Below w7.heap.size w7 (w7.alloc (.cells #[.int .i64 0, .int .i64 0, .int .i64 0, .int .i64 0, .int .i64 0, .int .i64 0, .int .i64 0, .int .i64 0, .bool false] 25)) := (Below.refl _ _).alloc (Nat.le_refl _) _; have t67 := a6.trans ((b7.trans (a7.mono b7.size)).mono a6.size); have t57 := b6.trans (t67.mono b6.size); have t47 := a4.trans ((b5.trans (t57.mono b5.size)).mono a4.size); have t37 := b4.trans (t47.mono b4.size); have t27 := a2.trans ((b3.trans (t37.mono b3.size)).mono a2.size); have Y2 := X2.below ((b3.trans (t37.mono b3.size)).mono (by have := a2.size; exact Nat.le_refl _)); have Y4 := X4.below ((b5.trans (t57.mono b5.size)).mono (Nat.le_refl _)); have Y6 := X6.below ((b7.trans (a7.mono b7.size)).mono (Nat.le_refl _)); have g20 := Y2.cell 0; rw [show (#[.int .i64 1000, .int .i64 0, .int .i64 0, .int .i64 0, .int .i64 0, .int .i64 0, .int .i64 0, .int .i64 0, .bool true] : Array Value)[0]? = some (.int .i64 1000) from rfl] at g20; have g21 := Y2.cell 1; rw [show (#[.int .i64 1000, .int .i64 0, .int .i64 0, .int .i64 0, .int .i64 0, .int .i64 0, .int .i64 0, .int .i64 0, .bool true] : Array Value)[1]? = some (.int .i64 0) from rfl] at g21; have g22 := Y2.cell 2; rw [show (#[.int .i64 1000, .int .i64 0, .int .i64 0, .int .i64 0, .int .i64 0, .int .i64 0, .int .i64 0, .int .i64 0, .bool true] : Array Value)[2]? = some (.int .i64 0) from rfl] at g22; have g23 := Y2.cell 3; rw [show (#[.int .i64 1000, .int .i64 0, .int .i64 0, .int .i64 0, .int .i64 0, .int .i64 0, .int .i64 0, .int .i64 0, .bool true] : Array Value)[3]? = some (.int .i64 0) from rfl] at g23; have g24 := Y2.cell 4; rw [show (#[.int .i64 1000, .int .i64 0, .int .i64 0, .int .i64 0, .int .i64 0, .int .i64 0, .int .i64 0, .int .i64 0, .bool true] : Array Value)[4]? = some (.int .i64 0) from rfl] at g24; have g25 := Y2.cell 5; rw [show (#[.int .i64 1000, .int .i64 0, .int .i64 0, .int .i64 0, .int .i64 0, .int .i64 0, .int .i64 0, .int .i64 0, .bool true] : Array Value)[5]? = some (.int .i64 0) from rfl] at g25; have g26 := Y2.cell 6; rw [show (#[.int .i64 1000, .int .i64 0, .int .i64 0, .int .i64 0, .int .i64 0, .int .i64 0, .int .i64 0, .int .i64 0, .bool true] : Array Value)[6]? = some (.int .i64 0) from rfl] at g26; have g27 := Y2.cell 7; rw [show (#[.int .i64 1000, .int .i64 0, .int .i64 0, .int .i64 0, .int .i64 0, .int .i64 0, .int .i64 0, .int .i64 0, .bool true] : Array Value)[7]? = some (.int .i64 0) from rfl] at g27; have g28 := Y2.cell 8; rw [show (#[.int .i64 1000, .int .i64 0, .int .i64 0, .int .i64 0, .int .i64 0, .int .i64 0, .int .i64 0, .int .i64 0, .bool true] : Array Value)[8]? = some (.bool true) from rfl] at g28; have g4 : _ = some (Value.int .i64 3) := (Y4.cell 0).trans rfl; have g6 : _ = some (Value.int .i64 (-200)) := (Y6.cell 1).trans rfl; have cv : ∀ dst, Try.prog.underlying dst = some .string → (convert 26 dst (.slice A3 6 c3)).run Try.prog (w7.alloc (.cells #[.int .i64 0, .int .i64 0, .int .i64 0, .int .i64 0, .int .i64 0, .int .i64 0, .int .i64 0, .int .i64 0, .bool false] 25)) = .ok (.string ⟨#[0, 0, 80, 0, 0, 3]⟩) (w7.alloc (.cells #[.int .i64 0, .int .i64 0, .int .i64 0, .int .i64 0, .int .i64 0, .int .i64 0, .int .i64 0, .int .i64 0, .bool false] 25)) := conv_lists (l3.below t37) rfl (putGs_bytes 3 false))) | (refine wpList_store_row rfl 25 (.tmp 13) (.tmp 47) (by with_reducible rfl) w7.heap.size #[.int .i64 0, .int .i64 0, .int .i64 0, .int .i64 0, .int .i64 0, .int .i64 0, .int .i64 0, .int .i64 0, .bool false] (by rfl) (by rfl) 25 #[.int .i64 0, .int .i64 0, .int .i64 0, .int .i64 0, .int .i64 0, .int .i64 0, .int .i64 0, .int .i64 0, .bool false] (Blk.new _ _ _) sizH rfl (by simp [Value.oneCell']) ?_; rw [World.setRow_alloc_new]))
  go_ret
  exact ⟨rfl, B7a⟩

end Go.Proofs.Ytbomgaacahaofaa

namespace Go.Proofs.Ytbomgaacahaofaa
open Go Go.RowKit

/-- The reference's reader at block p: its bytes (below block B), where it stands. -/
def RRd (w : World) (B p : Nat) (bs : List Value) (i : Nat) (bad : Bool) : Prop :=
  ∃ (A : Option Addr) (c : Nat), Blk w p 70 #[.slice A bs.length c, .int .i64 (i : Nat), .bool bad] ∧ Lists w B A bs ∧ Bytes8 bs ∧ i ≤ bs.length ∧ bs.length ≤ c ∧ c ≤ 9223372036854775807 ∧ bs.length ≤ 140737488355328 ∧ B ≤ p
theorem RRd.lt {w : World} {B p i : Nat} {bs : List Value} {bad : Bool} (h : RRd w B p bs i bad) : p < w.heap.size := by
  obtain ⟨_, _, hb, _⟩ := h
  exact hb.lt
theorem RRd.below {w w1 : World} {B p i : Nat} {bs : List Value} {bad : Bool} (h : RRd w B p bs i bad) (k : Below w.heap.size w w1) : RRd w1 B p bs i bad := by
  have hlt := h.lt
  obtain ⟨A, c, hb, hl, h8, h1, h2, h3, h4, h5⟩ := h
  exact ⟨A, c, hb.below k, hl.below (k.mono (by omega)), h8, h1, h2, h3, h4, h5⟩
/-- The next m bytes were answered. -/
def RTook (w : World) (B p : Nat) (bs : List Value) (i m : Nat) (e : Ending) (w' : World) : Prop := ∃ A c, e = .returned (.slice A m c) ∧ Lists w' w'.heap.size A ((bs.drop i).take m) ∧ RRd w' B p bs (i + m) false ∧ Only w w' [p]

set_option maxRecDepth 100000 in
set_option maxHeartbeats 2000000 in
theorem rtake_ok (B p : Nat) (bs : List Value) (i m : Nat) (w : World) (h : RRd w B p bs i false) (hm : 1 ≤ m) (him : i + m ≤ bs.length) :
    Calls Try.prog 32 #[.pointer (some ⟨p, 0, none⟩), .int .i64 (m : Nat)] w (RTook w B p bs i m) := by
  obtain ⟨A, c, hb, hl, h8, h1, h2, h3, h4, h5⟩ := id h
  obtain ⟨b, o, rfl, hbB, hcl⟩ := hl.plain (by intro e; rw [e] at him; simp at him; omega)
  have hlen : ((bs.drop i).take m).length = m := by simp only [List.length_take, List.length_drop]; omega
  have hpart : Lists w B (some ⟨b, o + i, none⟩) ((bs.drop i).take m) := by
    have := lists_part hl i m
    simpa [addr_plain] using this
  have h8p : Bytes8 ((bs.drop i).take m) := fun u hu => h8 u (List.mem_of_mem_drop (List.mem_of_mem_take hu))
  have hp := h.lt
  obtain ⟨E, hE⟩ : ∃ E, E = (bs.drop i).take m := ⟨_, rfl⟩
  rw [← hE] at hlen hpart h8p
  have HE := Lib.hid hE
  have HL := Lib.hid hl
  have H8 := Lib.hid h8
  have HP := Lib.hid h8p
  have HN := Lib.hid hlen
  clear hE hl h8 h8p hcl h hlen
  obtain ⟨n, hnn⟩ : ∃ n, n = bs.length := ⟨_, rfl⟩
  rw [← hnn] at hb h1 h2 h4 him
  have HB := Lib.hid hnn
  clear hnn
  have F0 := hb.kb; simp only [KB, CellsAt, Nat.zero_add, Nat.reduceAdd, and_true] at F0
  have e1 : decide ((m : Int) < 0) = false := by simp
  have e2 : (0 : Int) ≤ (m : Int) := by omega
  have s0 : IntKind.i64.wrap ((n : Int) - (i : Int)) = (n : Int) - (i : Int) := IntWalk.i64_in _ (by omega)
  have e3 : decide ((n : Int) - (i : Int) < (m : Int)) = false := by simp; omega
  have e3' : ¬ (n : Int) - (i : Int) < (m : Int) := by omega
  have s1 : IntKind.i64.wrap ((i : Int) + (m : Int)) = (i : Int) + (m : Int) := IntWalk.i64_in _ (by omega)
  have s2 : ((i : Int) + (m : Int)).toNat = i + m := by omega
  have e4 : (0 : Int) ≤ (i : Int) := by omega
  have e5 : (i : Int) + (m : Int) ≤ (c : Int) := by omega
  have e6 : (0 : Int) ≤ (i : Int) + (m : Int) := by omega
  have e7 : (i : Int) ≤ (i : Int) + (m : Int) := by omega
  have e8 : ¬ c = i := by omega
  have e9 : i + m - i = m := by omega
  have e10 : (i : Int) ≤ (c : Int) := by omega
  have e11 : i ≤ i + m := by omega
  have e12 : i + m ≤ c := by omega
  obtain ⟨i0, hi, hz0, hz1, hz2⟩ := info_parts u8Info
  go_enter Try.func32, Try.ntmps32
  go_wp2
  have hI : Below w.heap.size w w.drew := (Below.refl _ _).drew
  refine wp_region_chain (fun V => Below w.heap.size w V) [(0, false), (1, false), (2, false), (3, false), (4, false), (5, false), (6, false), (7, false), (8, false), (9, false), (10, false), (11, false), (12, false), (13, false), (14, false), (15, false), (16, false), (17, false), (18, false), (19, false), (20, false), (21, false)] (by kernel_rfl) (by kernel_rfl) hI ?_
  repeat (first
    | (refine ChainL.skip (o := ?_) ?_ ?_ ?_; rotate_left; (focus (first | (simp only [List.getElem?_toArray, List.getElem?_cons_succ, List.getElem?_cons_zero]; with_reducible rfl) | (simp only [List.getElem?_toArray, List.getElem?_cons_zero]; with_reducible rfl))); (focus rfl); simp only [Act.put, List.setIfInBounds_toArray, List.set_cons_zero, List.set_cons_succ])
    | (refine ChainL.val (o := ?_) (v := ?_) ?_ ?_ ?_ ?_ ?_; rotate_left 2; (focus (first | (simp only [List.getElem?_toArray, List.getElem?_cons_succ, List.getElem?_cons_zero]; with_reducible rfl) | (simp only [List.getElem?_toArray, List.getElem?_cons_zero]; with_reducible rfl))); (focus (intro _ _ h; cases h)); (focus rfl); (focus (intro w' hJ; have F := (hb.below hJ).kb; simp only [KB, CellsAt, Nat.zero_add, Nat.reduceAdd, and_true] at F; obtain ⟨_, _, y1, y2, y3⟩ := F; go_simp <;> with_reducible rfl)); simp only [Act.put, List.setIfInBounds_toArray, List.set_cons_zero, List.set_cons_succ]))
  refine ChainL.nil ?_
  go_wp2
  have hb1 := hb.below hI
  clear F0
  generalize w.drew = w1 at *
  have hI2 : Below w.heap.size w w1.drew := hI.drew
  refine wp_region_chain (fun V => Below w.heap.size w V) [(0, false), (1, false), (2, false), (3, false), (4, false), (5, false), (6, false), (7, false), (8, false), (9, false), (10, false), (11, false), (12, false), (13, false), (14, false), (15, false)] (by kernel_rfl) (by kernel_rfl) hI2 ?_
  repeat (first
    | (refine ChainL.skip (o := ?_) ?_ ?_ ?_; rotate_left; (focus (first | (simp only [List.getElem?_toArray, List.getElem?_cons_succ, List.getElem?_cons_zero]; with_reducible rfl) | (simp only [List.getElem?_toArray, List.getElem?_cons_zero]; with_reducible rfl))); (focus rfl); simp only [Act.put, List.setIfInBounds_toArray, List.set_cons_zero, List.set_cons_succ])
    | (refine ChainL.val (o := ?_) (v := ?_) ?_ ?_ ?_ ?_ ?_; rotate_left 2; (focus (first | (simp only [List.getElem?_toArray, List.getElem?_cons_succ, List.getElem?_cons_zero]; with_reducible rfl) | (simp only [List.getElem?_toArray, List.getElem?_cons_zero]; with_reducible rfl))); (focus (intro _ _ h; cases h)); (focus rfl); (focus (intro w' hJ; have F := (hb.below hJ).kb; simp only [KB, CellsAt, Nat.zero_add, Nat.reduceAdd, and_true] at F; obtain ⟨_, _, y1, y2, y3⟩ := F; go_simp <;> with_reducible rfl)); simp only [Act.put, List.setIfInBounds_toArray, List.set_cons_zero, List.set_cons_succ]))
  refine ChainL.nil ?_
  have hb2 := hb.below hI2
  have O2 : Only w (w1.drew.setCell ⟨p, 1, none⟩ (.int .i64 ((i : Int) + (m : Int)))) [p] := (Only.of_below hI2 [p]).set (.inl (by simp)) _
  have hp2 := (hpart.below (O2.to_below (by omega) (by simpa using h5)))
  have hb3 := hb2.set 1 (.int .i64 ((i : Int) + (m : Int)))
  have F := hb2.kb; simp only [KB, CellsAt, Nat.zero_add, Nat.reduceAdd, and_true] at F
  generalize w1.drew = w2 at *
  have HP2 := Lib.hid hp2
  have HB3 := Lib.hid hb3
  have HO2 := Lib.hid O2
  clear hp2 hb3 O2 hb hb1 hb2 hI hpart
  go_wp2_with (first | (at_builtin; refine wpList_append_src_wide _ rfl (.tmp 55) (.tmp 56) 26 rfl w2.heap.size 5 i0 (.int .u8 0) 1 1 Try.underlying26 hi hz0 hz1 hz2 rfl (by decide) (.slice (some ⟨w2.heap.size, 0, none⟩) 0 0) 0 [] rfl (own_new_at _ _ (by simp)) B (some ⟨b, o + i, none⟩) m _ E rfl (HP2.out.alloc (by have := HO2.out.size; simp at this ⊢; omega) _) (by rw [HN.out, Nat.mul_one]) HP.out.one (by simp only [maxLen]; omega) (by omega) (by simp) ?_; intro v4 w4 own4 hg4; rw [Nat.zero_add, List.nil_append] at own4))
  go_ret
  obtain ⟨A4, c4, rfl, l4, hc4⟩ := own_lists own4
  have b4 := ((Below.refl _ _).alloc (Nat.le_refl _) _).grown hg4 (by simp) (fun b hb => by simp [Value.ownBlock] at hb; subst hb; simp)
  have O4 := HO2.out.then_below b4
  exact ⟨A4, c4, rfl, HE.out ▸ l4, ⟨_, c, by rw [← HB.out, show ((i + m : Nat) : Int) = (i : Int) + (m : Int) by omega]; exact HB3.out.below b4, HL.out.below (O4.to_below (by omega) (by simpa using h5)), H8.out, by rw [← HB.out]; exact him, by rw [← HB.out]; exact h2, h3, by rw [← HB.out]; exact h4, h5⟩, O4⟩

/-- Too few bytes are left. -/
def RFell (w : World) (B p : Nat) (bs : List Value) (i : Nat) (e : Ending) (w' : World) : Prop := e = .returned (.slice none 0 0) ∧ RRd w' B p bs i true ∧ Only w w' [p]
set_option maxRecDepth 100000 in
theorem rtake_short (B p : Nat) (bs : List Value) (i m : Nat) (w : World) (h : RRd w B p bs i false) (him : bs.length - i < m) :
    Calls Try.prog 32 #[.pointer (some ⟨p, 0, none⟩), .int .i64 (m : Nat)] w (RFell w B p bs i) := by
  obtain ⟨A, c, hb, hl, h8, h1, h2, h3, h4, h5⟩ := id h
  have hp := h.lt
  have HL := Lib.hid hl
  have H8 := Lib.hid h8
  clear hl h8 h
  obtain ⟨n, hnn⟩ : ∃ n, n = bs.length := ⟨_, rfl⟩
  rw [← hnn] at hb h1 h2 h4 him
  have HB := Lib.hid hnn
  clear hnn
  have e1 : decide ((m : Int) < 0) = false := by simp
  have s0 : IntKind.i64.wrap ((n : Int) - (i : Int)) = (n : Int) - (i : Int) := IntWalk.i64_in _ (by omega)
  have e3 : decide ((n : Int) - (i : Int) < (m : Int)) = true := by simp; omega
  have e3' : (n : Int) - (i : Int) < (m : Int) := by omega
  go_enter Try.func32, Try.ntmps32
  go_wp2
  have hI : Below w.heap.size w w.drew := (Below.refl _ _).drew
  refine wp_region_chain (fun V => Below w.heap.size w V) [(0, false), (1, false), (2, false), (3, false), (4, false), (5, false), (6, false), (7, false), (8, false), (9, false), (10, false), (11, false), (12, false), (13, false), (14, false), (15, false), (16, false), (17, false), (18, false), (19, false), (20, false), (21, false)] (by kernel_rfl) (by kernel_rfl) hI ?_
  repeat (first
    | (refine ChainL.skip (o := ?_) ?_ ?_ ?_; rotate_left; (focus (first | (simp only [List.getElem?_toArray, List.getElem?_cons_succ, List.getElem?_cons_zero]; with_reducible rfl) | (simp only [List.getElem?_toArray, List.getElem?_cons_zero]; with_reducible rfl))); (focus rfl); simp only [Act.put, List.setIfInBounds_toArray, List.set_cons_zero, List.set_cons_succ])
    | (refine ChainL.val (o := ?_) (v := ?_) ?_ ?_ ?_ ?_ ?_; rotate_left 2; (focus (first | (simp only [List.getElem?_toArray, List.getElem?_cons_succ, List.getElem?_cons_zero]; with_reducible rfl) | (simp only [List.getElem?_toArray, List.getElem?_cons_zero]; with_reducible rfl))); (focus (intro _ _ h; cases h)); (focus rfl); (focus (intro w' hJ; have F := (hb.below hJ).kb; simp only [KB, CellsAt, Nat.zero_add, Nat.reduceAdd, and_true] at F; obtain ⟨_, _, y1, y2, y3⟩ := F; go_simp <;> with_reducible rfl)); simp only [Act.put, List.setIfInBounds_toArray, List.set_cons_zero, List.set_cons_succ]))
  refine ChainL.nil ?_
  have hb1 := hb.below hI
  have F := hb1.kb; simp only [KB, CellsAt, Nat.zero_add, Nat.reduceAdd, and_true] at F
  have hb2 := hb1.set 2 (.bool true)
  have O2 : Only w (w.drew.setCell ⟨p, 2, none⟩ (.bool true)) [p] := (Only.of_below hI [p]).set (.inl (by simp)) _
  generalize w.drew = w1 at *
  go_wp2
  go_ret
  exact ⟨rfl, ⟨A, c, by rw [← HB.out]; exact hb2, HL.out.below (O2.to_below (by omega) (by simpa using h5)), H8.out, by rw [← HB.out]; exact h1, by rw [← HB.out]; exact h2, h3, by rw [← HB.out]; exact h4, h5⟩, O2⟩

/-- A number was read. -/
def RRead (w : World) (B p : Nat) (bs : List Value) (i : Nat) (x : Int) (e : Ending) (w' : World) : Prop := e = .returned (.int .i64 x) ∧ RRd w' B p bs i false ∧ Only w w' [p]
set_option maxRecDepth 100000 in
theorem ru2_ok (B p : Nat) (bs : List Value) (i : Nat) (w : World) (h : RRd w B p bs i false) (him : i + 2 ≤ bs.length) :
    Calls Try.prog 31 #[.pointer (some ⟨p, 0, none⟩), .int .i64 2] w (RRead w B p bs (i + 2) (rd2 bs i : Nat)) := by
  have C : Calls Try.prog 32 #[.pointer (some ⟨p, 0, none⟩), .int .i64 2] w (RTook w B p bs i 2) := rtake_ok B p bs i 2 w h (by omega) him
  have h8 : Bytes8 bs := by obtain ⟨_, _, _, _, h8, _⟩ := h; exact h8
  have e : (bs.drop i).take 2 = [.int .u8 ((byteAt bs i) : Nat), .int .u8 ((byteAt bs (i + 1)) : Nat)] := by
    apply List.ext_getElem?
    intro j
    rw [List.getElem?_take, List.getElem?_drop]
    match j with
    | 0 => simpa using byteAt_get h8 (i := i) (by omega)
    | 1 => simpa using byteAt_get h8 (i := i + 1) (by omega)
    | j + 2 => simp <;> omega
  have l0 := byteAt_lt h8 i
  have l1 := byteAt_lt h8 (i + 1)
  unfold rd2
  clear h h8

  generalize byteAt bs (i + 1) = x1 at *
  generalize byteAt bs i = x0 at *
  have E := Lib.hid e
  clear e
  go_enter Try.func31, Try.ntmps31
  go_wp2_with (first | (go_at_call 32; ((refine C.mono ?_); rintro e w2 ⟨A2, k2, rfl, ll, hr, o2⟩; rw [E.out] at ll; obtain ⟨b, o, rfl, hb, hc⟩ := ll.plain (by simp); have c0 := hc 0 _ rfl; have c1 := hc 1 _ rfl; rw [Nat.add_zero] at c0; clear hc)))
  refine wp_loop_rounds 3 ?_
  rw [rounds_succ]
  go_wp2
  rw [rounds_succ]
  go_wp2
  rw [rounds_succ]
  go_wp2
  go_ret
  exact ⟨ret_int (by omega), hr, o2⟩
theorem ru2_short (B p : Nat) (bs : List Value) (i : Nat) (w : World) (h : RRd w B p bs i false) (him : bs.length - i < 2) :
    Calls Try.prog 31 #[.pointer (some ⟨p, 0, none⟩), .int .i64 2] w fun e w' => e = .returned (.int .i64 0) ∧ RRd w' B p bs i true ∧ Only w w' [p] := by
  have C : Calls Try.prog 32 #[.pointer (some ⟨p, 0, none⟩), .int .i64 2] w (RFell w B p bs i) := rtake_short B p bs i 2 w h him
  clear h him
  go_enter Try.func31, Try.ntmps31
  go_wp2_with (first | (go_at_call 32; ((refine C.mono ?_); rintro e w2 ⟨rfl, hr, o2⟩)))
  refine wp_loop_rounds 1 ?_
  rw [rounds_succ]
  go_wp2
  go_ret
  exact ⟨rfl, hr, o2⟩
set_option maxRecDepth 100000 in
theorem ru4_ok (B p : Nat) (bs : List Value) (i : Nat) (w : World) (h : RRd w B p bs i false) (him : i + 4 ≤ bs.length) :
    Calls Try.prog 31 #[.pointer (some ⟨p, 0, none⟩), .int .i64 4] w (RRead w B p bs (i + 4) (rd4 bs i : Nat)) := by
  have C : Calls Try.prog 32 #[.pointer (some ⟨p, 0, none⟩), .int .i64 4] w (RTook w B p bs i 4) := rtake_ok B p bs i 4 w h (by omega) him
  have h8 : Bytes8 bs := by obtain ⟨_, _, _, _, h8, _⟩ := h; exact h8
  have e : (bs.drop i).take 4 = [.int .u8 ((byteAt bs i) : Nat), .int .u8 ((byteAt bs (i + 1)) : Nat), .int .u8 ((byteAt bs (i + 2)) : Nat), .int .u8 ((byteAt bs (i + 3)) : Nat)] := by
    apply List.ext_getElem?
    intro j
    rw [List.getElem?_take, List.getElem?_drop]
    match j with
    | 0 => simpa using byteAt_get h8 (i := i) (by omega)
    | 1 => simpa using byteAt_get h8 (i := i + 1) (by omega)
    | 2 => simpa using byteAt_get h8 (i := i + 2) (by omega)
    | 3 => simpa using byteAt_get h8 (i := i + 3) (by omega)
    | j + 4 => simp <;> omega
  have l0 := byteAt_lt h8 i
  have l1 := byteAt_lt h8 (i + 1)
  have l2 := byteAt_lt h8 (i + 2)
  have l3 := byteAt_lt h8 (i + 3)
  unfold rd4
  clear h h8

  generalize byteAt bs (i + 1) = x1 at *
  generalize byteAt bs (i + 2) = x2 at *
  generalize byteAt bs (i + 3) = x3 at *
  generalize byteAt bs i = x0 at *
  have E := Lib.hid e
  clear e
  go_enter Try.func31, Try.ntmps31
  go_wp2_with (first | (go_at_call 32; ((refine C.mono ?_); rintro e w2 ⟨A2, k2, rfl, ll, hr, o2⟩; rw [E.out] at ll; obtain ⟨b, o, rfl, hb, hc⟩ := ll.plain (by simp); have c0 := hc 0 _ rfl; have c1 := hc 1 _ rfl; have c2 := hc 2 _ rfl; have c3 := hc 3 _ rfl; rw [Nat.add_zero] at c0; clear hc)))
  refine wp_loop_rounds 5 ?_
  rw [rounds_succ]
  go_wp2
  rw [rounds_succ]
  go_wp2
  rw [rounds_succ]
  go_wp2
  rw [rounds_succ]
  go_wp2
  rw [rounds_succ]
  go_wp2
  go_ret
  exact ⟨ret_int (by omega), hr, o2⟩
theorem ru4_short (B p : Nat) (bs : List Value) (i : Nat) (w : World) (h : RRd w B p bs i false) (him : bs.length - i < 4) :
    Calls Try.prog 31 #[.pointer (some ⟨p, 0, none⟩), .int .i64 4] w fun e w' => e = .returned (.int .i64 0) ∧ RRd w' B p bs i true ∧ Only w w' [p] := by
  have C : Calls Try.prog 32 #[.pointer (some ⟨p, 0, none⟩), .int .i64 4] w (RFell w B p bs i) := rtake_short B p bs i 4 w h him
  clear h him
  go_enter Try.func31, Try.ntmps31
  go_wp2_with (first | (go_at_call 32; ((refine C.mono ?_); rintro e w2 ⟨rfl, hr, o2⟩)))
  refine wp_loop_rounds 1 ?_
  rw [rounds_succ]
  go_wp2
  go_ret
  exact ⟨rfl, hr, o2⟩
set_option maxRecDepth 100000 in
theorem rI16_ok (B p : Nat) (bs : List Value) (i : Nat) (w : World) (h : RRd w B p bs i false) (him : i + 2 ≤ bs.length) :
    Calls Try.prog 33 #[.pointer (some ⟨p, 0, none⟩)] w (RRead w B p bs (i + 2) (s16 (rd2 bs i))) := by
  have C := ru2_ok B p bs i w h him
  have h8 : Bytes8 bs := by obtain ⟨_, _, _, _, h8, _⟩ := h; exact h8
  have hlt := rd2_lt h8 i
  clear h h8
  generalize rd2 bs i = x at *
  by_cases hx : x < 32768
  · have d : decide ((32768 : Int) ≤ (x : Int)) = false := by simp; omega
    have HX := Lib.hid hx
    clear hx hlt
    go_enter Try.func33, Try.ntmps33
    go_wp2_with (first | (go_at_call 31; ((with_reducible refine C.mono ?_); rintro e w2 ⟨rfl, hr, o2⟩)))
    go_ret
    exact ⟨ret_int (by unfold s16; rw [if_pos HX.out]), hr, o2⟩
  · have d : decide ((32768 : Int) ≤ (x : Int)) = true := by simp; omega
    have hb1 : (x : Int) ≤ 65535 := by omega
    have hb2 : (0 : Int) ≤ (x : Int) := by omega
    have HX := Lib.hid hx
    clear hx hlt
    go_enter Try.func33, Try.ntmps33
    go_wp2_with (first | (go_at_call 31; ((with_reducible refine C.mono ?_); rintro e w2 ⟨rfl, hr, o2⟩)))
    go_ret
    exact ⟨ret_int (by unfold s16; rw [if_neg HX.out]), hr, o2⟩

end Go.Proofs.Ytbomgaacahaofaa

namespace Go.Proofs.Ytbomgaacahaofaa
open Go Go.RowKit

set_option maxRecDepth 100000 in
theorem rtake_bad (B p : Nat) (bs : List Value) (i m : Nat) (w : World) (h : RRd w B p bs i true) :
    Calls Try.prog 32 #[.pointer (some ⟨p, 0, none⟩), .int .i64 (m : Nat)] w (RFell w B p bs i) := by
  obtain ⟨A, c, hb, hl, h8, h1, h2, h3, h4, h5⟩ := id h
  have hp := h.lt
  have HL := Lib.hid hl
  have H8 := Lib.hid h8
  clear hl h8 h
  obtain ⟨n, hnn⟩ : ∃ n, n = bs.length := ⟨_, rfl⟩
  rw [← hnn] at hb h1 h2 h4
  have HB := Lib.hid hnn
  clear hnn
  go_enter Try.func32, Try.ntmps32
  go_wp2
  have hI : Below w.heap.size w w.drew := (Below.refl _ _).drew
  refine wp_region_chain (fun V => Below w.heap.size w V) [(0, false), (1, false), (2, false), (3, false), (4, false), (5, false), (6, false), (7, false), (8, false), (9, false), (10, false), (11, false), (12, false), (13, false), (14, false), (15, false), (16, false), (17, false), (18, false), (19, false), (20, false), (21, false)] (by kernel_rfl) (by kernel_rfl) hI ?_
  repeat (first
    | (refine ChainL.skip (o := ?_) ?_ ?_ ?_; rotate_left; (focus (first | (simp only [List.getElem?_toArray, List.getElem?_cons_succ, List.getElem?_cons_zero]; with_reducible rfl) | (simp only [List.getElem?_toArray, List.getElem?_cons_zero]; with_reducible rfl))); (focus rfl); simp only [Act.put, List.setIfInBounds_toArray, List.set_cons_zero, List.set_cons_succ])
    | (refine ChainL.val (o := ?_) (v := ?_) ?_ ?_ ?_ ?_ ?_; rotate_left 2; (focus (first | (simp only [List.getElem?_toArray, List.getElem?_cons_succ, List.getElem?_cons_zero]; with_reducible rfl) | (simp only [List.getElem?_toArray, List.getElem?_cons_zero]; with_reducible rfl))); (focus (intro _ _ h; cases h)); (focus rfl); (focus (intro w' hJ; have F := (hb.below hJ).kb; simp only [KB, CellsAt, Nat.zero_add, Nat.reduceAdd, and_true] at F; obtain ⟨_, _, y1, y2, y3⟩ := F; go_simp <;> with_reducible rfl)); simp only [Act.put, List.setIfInBounds_toArray, List.set_cons_zero, List.set_cons_succ]))
  refine ChainL.nil ?_
  have hb1 := hb.below hI
  have F := hb1.kb; simp only [KB, CellsAt, Nat.zero_add, Nat.reduceAdd, and_true] at F
  have hb2 := hb1.set 2 (.bool true)
  have O2 : Only w (w.drew.setCell ⟨p, 2, none⟩ (.bool true)) [p] := (Only.of_below hI [p]).set (.inl (by simp)) _
  generalize w.drew = w1 at *
  go_wp2
  go_ret
  exact ⟨rfl, ⟨A, c, by rw [← HB.out]; exact hb2, HL.out.below (O2.to_below (by omega) (by simpa using h5)), H8.out, by rw [← HB.out]; exact h1, by rw [← HB.out]; exact h2, h3, by rw [← HB.out]; exact h4, h5⟩, O2⟩


def RR (w : World) (B p : Nat) (bs : List Value) (k : Nat) : Prop := (k ≤ bs.length ∧ RRd w B p bs k false) ∨ (bs.length < k ∧ ∃ i, RRd w B p bs i true)
theorem RR.below {w w1 : World} {B p k : Nat} {bs : List Value} (h : RR w B p bs k) (b : Below w.heap.size w w1) : RR w1 B p bs k :=
  h.imp (fun ⟨h1, h2⟩ => ⟨h1, h2.below b⟩) (fun ⟨h1, i, h2⟩ => ⟨h1, i, h2.below b⟩)
theorem RR.bytes {w : World} {B p k : Nat} {bs : List Value} (h : RR w B p bs k) : Bytes8 bs := by
  rcases h with ⟨_, _, _, _, _, h8, _⟩ | ⟨_, _, _, _, _, _, h8, _⟩ <;> exact h8
theorem RR.low {w : World} {B p k : Nat} {bs : List Value} (h : RR w B p bs k) : B ≤ p ∧ p < w.heap.size := by
  rcases h with ⟨_, h⟩ | ⟨_, _, h⟩ <;> (have h1 := h.lt; obtain ⟨_, _, _, _, _, _, _, _, _, h5⟩ := h; exact ⟨h5, h1⟩)
theorem RRd.other {w w1 : World} {B p i : Nat} {bs : List Value} {bad : Bool} {fp : List Nat} (h : RRd w B p bs i bad) (o : Only w w1 fp) (hp : p ∉ fp) (hf : ∀ b ∈ fp, B ≤ b) : RRd w1 B p bs i bad := by
  have hlt := h.lt
  obtain ⟨A, c, hb, hl, h8, h1, h2, h3, h4, h5⟩ := h
  exact ⟨A, c, hb.only o hp, hl.below (o.to_below (by omega) hf), h8, h1, h2, h3, h4, h5⟩
theorem RR.other {w w1 : World} {B p k : Nat} {bs : List Value} {fp : List Nat} (h : RR w B p bs k) (o : Only w w1 fp) (hp : p ∉ fp) (hf : ∀ b ∈ fp, B ≤ b) : RR w1 B p bs k :=
  h.imp (fun ⟨h1, h2⟩ => ⟨h1, h2.other o hp hf⟩) (fun ⟨h1, i, h2⟩ => ⟨h1, i, h2.other o hp hf⟩)
/-- A number was read by a reader that may have come to its end. -/
def RReadS (w : World) (B p : Nat) (bs : List Value) (k : Nat) (x : Int) (e : Ending) (w' : World) : Prop := e = .returned (.int .i64 x) ∧ RR w' B p bs k ∧ Only w w' [p]
def RTookS (w : World) (B p : Nat) (bs : List Value) (k : Nat) (e : Ending) (w' : World) : Prop := ∃ v, e = .returned v ∧ RR w' B p bs k ∧ Only w w' [p]
theorem rr_take (B p : Nat) (bs : List Value) (k m : Nat) (w : World) (h : RR w B p bs k) (hm : 1 ≤ m) :
    Calls Try.prog 32 #[.pointer (some ⟨p, 0, none⟩), .int .i64 (m : Nat)] w (RTookS w B p bs (k + m)) := by
  rcases h with ⟨h1, h2⟩ | ⟨h1, i, h2⟩
  · by_cases hk : k + m ≤ bs.length
    · exact (rtake_ok B p bs k m w h2 hm hk).mono fun e w' ⟨A, c, a, _, b, o⟩ => ⟨_, a, .inl ⟨hk, b⟩, o⟩
    · exact (rtake_short B p bs k m w h2 (by omega)).mono fun e w' ⟨a, b, o⟩ => ⟨_, a, .inr ⟨by omega, k, b⟩, o⟩
  · exact (rtake_bad B p bs i m w h2).mono fun e w' ⟨a, b, o⟩ => ⟨_, a, .inr ⟨by omega, i, b⟩, o⟩
set_option maxRecDepth 100000 in
theorem ru2_bad (B p : Nat) (bs : List Value) (i : Nat) (w : World) (h : RRd w B p bs i true) :
    Calls Try.prog 31 #[.pointer (some ⟨p, 0, none⟩), .int .i64 2] w fun e w' => e = .returned (.int .i64 0) ∧ RRd w' B p bs i true ∧ Only w w' [p] := by
  have C : Calls Try.prog 32 #[.pointer (some ⟨p, 0, none⟩), .int .i64 2] w (RFell w B p bs i) := rtake_bad B p bs i 2 w h
  clear h
  go_enter Try.func31, Try.ntmps31
  go_wp2_with (first | (go_at_call 32; ((refine C.mono ?_); rintro e w2 ⟨rfl, hr, o2⟩)))
  refine wp_loop_rounds 1 ?_
  rw [rounds_succ]
  go_wp2
  go_ret
  exact ⟨rfl, hr, o2⟩
theorem rr_u2 (B p : Nat) (bs : List Value) (k : Nat) (w : World) (h : RR w B p bs k) :
    Calls Try.prog 31 #[.pointer (some ⟨p, 0, none⟩), .int .i64 2] w (RReadS w B p bs (k + 2) (rsn bs 2 k (rd2 bs k) : Nat)) := by
  unfold rsn
  rcases h with ⟨h1, h2⟩ | ⟨h1, i, h2⟩
  · by_cases hk : k + 2 ≤ bs.length
    · rw [if_pos hk]
      exact (ru2_ok B p bs k w h2 hk).mono fun e w' ⟨a, b, o⟩ => ⟨a, .inl ⟨hk, b⟩, o⟩
    · rw [if_neg hk]
      exact (ru2_short B p bs k w h2 (by omega)).mono fun e w' ⟨a, b, o⟩ => ⟨a, .inr ⟨by omega, k, b⟩, o⟩
  · rw [if_neg (by omega)]
    exact (ru2_bad B p bs i w h2).mono fun e w' ⟨a, b, o⟩ => ⟨a, .inr ⟨by omega, i, b⟩, o⟩
set_option maxRecDepth 100000 in
theorem ru4_bad (B p : Nat) (bs : List Value) (i : Nat) (w : World) (h : RRd w B p bs i true) :
    Calls Try.prog 31 #[.pointer (some ⟨p, 0, none⟩), .int .i64 4] w fun e w' => e = .returned (.int .i64 0) ∧ RRd w' B p bs i true ∧ Only w w' [p] := by
  have C : Calls Try.prog 32 #[.pointer (some ⟨p, 0, none⟩), .int .i64 4] w (RFell w B p bs i) := rtake_bad B p bs i 4 w h
  clear h
  go_enter Try.func31, Try.ntmps31
  go_wp2_with (first | (go_at_call 32; ((refine C.mono ?_); rintro e w2 ⟨rfl, hr, o2⟩)))
  refine wp_loop_rounds 1 ?_
  rw [rounds_succ]
  go_wp2
  go_ret
  exact ⟨rfl, hr, o2⟩
theorem rr_u4 (B p : Nat) (bs : List Value) (k : Nat) (w : World) (h : RR w B p bs k) :
    Calls Try.prog 31 #[.pointer (some ⟨p, 0, none⟩), .int .i64 4] w (RReadS w B p bs (k + 4) (rsn bs 4 k (rd4 bs k) : Nat)) := by
  unfold rsn
  rcases h with ⟨h1, h2⟩ | ⟨h1, i, h2⟩
  · by_cases hk : k + 4 ≤ bs.length
    · rw [if_pos hk]
      exact (ru4_ok B p bs k w h2 hk).mono fun e w' ⟨a, b, o⟩ => ⟨a, .inl ⟨hk, b⟩, o⟩
    · rw [if_neg hk]
      exact (ru4_short B p bs k w h2 (by omega)).mono fun e w' ⟨a, b, o⟩ => ⟨a, .inr ⟨by omega, k, b⟩, o⟩
  · rw [if_neg (by omega)]
    exact (ru4_bad B p bs i w h2).mono fun e w' ⟨a, b, o⟩ => ⟨a, .inr ⟨by omega, i, b⟩, o⟩
set_option maxRecDepth 100000 in
theorem rr_i16 (B p : Nat) (bs : List Value) (k : Nat) (w : World) (h : RR w B p bs k) :
    Calls Try.prog 33 #[.pointer (some ⟨p, 0, none⟩)] w (RReadS w B p bs (k + 2) (s16 (rsn bs 2 k (rd2 bs k)))) := by
  have C := rr_u2 B p bs k w h
  have hlt : rsn bs 2 k (rd2 bs k) < 65536 := rsn_lt (rd2_lt h.bytes k)
  clear h
  generalize rsn bs 2 k (rd2 bs k) = x at *
  by_cases hx : x < 32768
  · have d : decide ((32768 : Int) ≤ (x : Int)) = false := by simp; omega
    have HX := Lib.hid hx
    clear hx hlt
    go_enter Try.func33, Try.ntmps33
    go_wp2_with (first | (go_at_call 31; ((with_reducible refine C.mono ?_); rintro e w2 ⟨rfl, hr, o2⟩)))
    go_ret
    exact ⟨ret_int (by unfold s16; rw [if_pos HX.out]), hr, o2⟩
  · have d : decide ((32768 : Int) ≤ (x : Int)) = true := by simp; omega
    have hb1 : (x : Int) ≤ 65535 := by omega
    have hb2 : (0 : Int) ≤ (x : Int) := by omega
    have HX := Lib.hid hx
    clear hx hlt
    go_enter Try.func33, Try.ntmps33
    go_wp2_with (first | (go_at_call 31; ((with_reducible refine C.mono ?_); rintro e w2 ⟨rfl, hr, o2⟩)))
    go_ret
    exact ⟨ret_int (by unfold s16; rw [if_neg HX.out]), hr, o2⟩
/-- The same, as the code reads them. -/
theorem rr_k1 (B p : Nat) (bs : List Value) (k : Nat) (w : World) (h : RR w B p bs k) : Calls Try.prog 31 #[.pointer (some ⟨p, 0, none⟩), .int .i64 2] w (RReadS w B p bs (k + 2) (rdk bs 1 k)) := rr_u2 B p bs k w h
theorem rr_k2 (B p : Nat) (bs : List Value) (k : Nat) (w : World) (h : RR w B p bs k) : Calls Try.prog 33 #[.pointer (some ⟨p, 0, none⟩)] w (RReadS w B p bs (k + 2) (rdk bs 2 k)) := rr_i16 B p bs k w h
theorem rr_k3 (B p : Nat) (bs : List Value) (k : Nat) (w : World) (h : RR w B p bs k) : Calls Try.prog 31 #[.pointer (some ⟨p, 0, none⟩), .int .i64 4] w (RReadS w B p bs (k + 4) (rdk bs 3 k)) := rr_u4 B p bs k w h
theorem RR.flag {w : World} {B p k : Nat} {bs : List Value} (h : RR w B p bs k) : w.cell? ⟨p, 2, none⟩ = some (.bool (decide (bs.length < k))) := by
  rcases h with ⟨h1, _, _, hb, _⟩ | ⟨h1, _, _, _, hb, _⟩
  · rw [decide_eq_false (by omega)]; exact hb.cell 2
  · rw [decide_eq_true h1]; exact hb.cell 2

end Go.Proofs.Ytbomgaacahaofaa

namespace Go.Proofs.Ytbomgaacahaofaa
open Go Go.RowKit

set_option linter.unusedVariables false
set_option linter.unusedSimpArgs false
theorem rword (x : Int) (w : World) : Calls Try.prog 26 #[.int .i64 x] w fun e w' => e = .returned (.bool (inW x)) ∧ w = w' := by
  by_cases h1 : 0 ≤ x
  · have d1 : decide (0 ≤ x) = true := decide_eq_true h1
    by_cases h2 : x < 65536
    · have d2 : decide (x < 65536) = true := decide_eq_true h2
      have e : inW x = true := by unfold inW; simp; omega
      rw [e]
      clear e
      go_enter Try.func26, Try.ntmps26
      go_wp2
      go_ret
      exact ⟨rfl, rfl⟩
    · have d2 : decide (x < 65536) = false := decide_eq_false h2
      have e : inW x = false := by unfold inW; simp; omega
      rw [e]
      clear e
      go_enter Try.func26, Try.ntmps26
      go_wp2
      go_ret
      exact ⟨rfl, rfl⟩
  · have d1 : decide (0 ≤ x) = false := decide_eq_false h1
    have e : inW x = false := by unfold inW; simp; omega
    rw [e]
    clear e
    go_enter Try.func26, Try.ntmps26
    go_wp2
    go_ret
    exact ⟨rfl, rfl⟩
theorem rsigned (x : Int) (w : World) : Calls Try.prog 27 #[.int .i64 x] w fun e w' => e = .returned (.bool (inS x)) ∧ w = w' := by
  by_cases h1 : -32768 ≤ x
  · have d1 : decide (-32768 ≤ x) = true := decide_eq_true h1
    by_cases h2 : x < 32768
    · have d2 : decide (x < 32768) = true := decide_eq_true h2
      have e : inS x = true := by unfold inS; simp; omega
      rw [e]
      clear e
      go_enter Try.func27, Try.ntmps27
      go_wp2
      go_ret
      exact ⟨rfl, rfl⟩
    · have d2 : decide (x < 32768) = false := decide_eq_false h2
      have e : inS x = false := by unfold inS; simp; omega
      rw [e]
      clear e
      go_enter Try.func27, Try.ntmps27
      go_wp2
      go_ret
      exact ⟨rfl, rfl⟩
  · have d1 : decide (-32768 ≤ x) = false := decide_eq_false h1
    have e : inS x = false := by unfold inS; simp; omega
    rw [e]
    clear e
    go_enter Try.func27, Try.ntmps27
    go_wp2
    go_ret
    exact ⟨rfl, rfl⟩
set_option maxRecDepth 100000 in
set_option maxHeartbeats 4000000 in
theorem rMayGlyphs (a0 : Int) (b1 : Bool) (w : World) : Calls Try.prog 17 #[.agg #[.int .i64 a0, .bool b1]] w fun e w' => e = .returned (.bool (mayG a0)) ∧ Below w.heap.size w w' := by
  cases k0 : decide (1 ≤ a0)
  · have e : (mayG a0) = false := by unfold mayG; simp only [k0, Bool.true_and, Bool.and_true, Bool.false_and, Bool.and_false]
    rw [e]
    clear e
    have b0 : Below w.heap.size w (w.alloc (.cells #[.int .i64 a0, .bool b1] 40)) := (Below.refl _ _).alloc (Nat.le_refl _) _
    have HB := Lib.hid b0
    clear b0
    go_enter Try.func17, Try.ntmps17
    go_wp2
    go_ret
    exact ⟨rfl, HB.out⟩
  cases k1 : decide (a0 ≤ 65535)
  · have e : (mayG a0) = false := by unfold mayG; simp only [k0, k1, Bool.true_and, Bool.and_true, Bool.false_and, Bool.and_false]
    rw [e]
    clear e
    have b0 : Below w.heap.size w (w.alloc (.cells #[.int .i64 a0, .bool b1] 40)) := (Below.refl _ _).alloc (Nat.le_refl _) _
    have HB := Lib.hid b0
    clear b0
    go_enter Try.func17, Try.ntmps17
    go_wp2
    go_ret
    exact ⟨rfl, HB.out⟩
  have e : (mayG a0) = true := by unfold mayG; simp only [k0, k1, Bool.true_and, Bool.and_true, Bool.false_and, Bool.and_false]
  rw [e]
  clear e
  have b0 : Below w.heap.size w (w.alloc (.cells #[.int .i64 a0, .bool b1] 40)) := (Below.refl _ _).alloc (Nat.le_refl _) _
  have HB := Lib.hid b0
  clear b0
  go_enter Try.func17, Try.ntmps17
  go_wp2
  go_ret
  exact ⟨rfl, HB.out⟩
set_option maxRecDepth 100000 in
set_option maxHeartbeats 4000000 in
theorem rMayLines (a0 a1 a2 a3 : Int) (w : World) : Calls Try.prog 20 #[.agg #[.int .i64 a0, .int .i64 a1, .int .i64 a2, .int .i64 a3]] w fun e w' => e = .returned (.bool (mayL a0 a1 a2 a3)) ∧ Below w.heap.size w w' := by
  cases k0 : inS a0
  · have C0 := fun w => rsigned a0 w
    rw [k0] at C0
    have e : (mayL a0 a1 a2 a3) = false := by unfold mayL mayG; simp only [k0, Bool.true_and, Bool.and_true, Bool.false_and, Bool.and_false]
    rw [e]
    clear e
    have b0 : Below w.heap.size w (w.alloc (.cells #[.int .i64 a0, .int .i64 a1, .int .i64 a2, .int .i64 a3] 50)) := (Below.refl _ _).alloc (Nat.le_refl _) _
    have HB := Lib.hid b0
    clear b0
    go_enter Try.func20, Try.ntmps20
    go_wp2_with (first | (go_at_call 27; ((with_reducible refine (C0 _).mono ?_); rintro e w' ⟨rfl, rfl⟩)) | fail)
    go_ret
    exact ⟨rfl, HB.out⟩
  cases k1 : inS a1
  · have C0 := fun w => rsigned a0 w
    rw [k0] at C0
    have C1 := fun w => rsigned a1 w
    rw [k1] at C1
    have e : (mayL a0 a1 a2 a3) = false := by unfold mayL mayG; simp only [k0, k1, Bool.true_and, Bool.and_true, Bool.false_and, Bool.and_false]
    rw [e]
    clear e
    have b0 : Below w.heap.size w (w.alloc (.cells #[.int .i64 a0, .int .i64 a1, .int .i64 a2, .int .i64 a3] 50)) := (Below.refl _ _).alloc (Nat.le_refl _) _
    have HB := Lib.hid b0
    clear b0
    go_enter Try.func20, Try.ntmps20
    go_wp2_with (first | (go_at_call 27; ((with_reducible refine (C0 _).mono ?_); rintro e w' ⟨rfl, rfl⟩)) | (go_at_call 27; ((with_reducible refine (C1 _).mono ?_); rintro e w' ⟨rfl, rfl⟩)) | fail)
    go_ret
    exact ⟨rfl, HB.out⟩
  cases k2 : inS a2
  · have C0 := fun w => rsigned a0 w
    rw [k0] at C0
    have C1 := fun w => rsigned a1 w
    rw [k1] at C1
    have C2 := fun w => rsigned a2 w
    rw [k2] at C2
    have e : (mayL a0 a1 a2 a3) = false := by unfold mayL mayG; simp only [k0, k1, k2, Bool.true_and, Bool.and_true, Bool.false_and, Bool.and_false]
    rw [e]
    clear e
    have b0 : Below w.heap.size w (w.alloc (.cells #[.int .i64 a0, .int .i64 a1, .int .i64 a2, .int .i64 a3] 50)) := (Below.refl _ _).alloc (Nat.le_refl _) _
    have HB := Lib.hid b0
    clear b0
    go_enter Try.func20, Try.ntmps20
    go_wp2_with (first | (go_at_call 27; ((with_reducible refine (C0 _).mono ?_); rintro e w' ⟨rfl, rfl⟩)) | (go_at_call 27; ((with_reducible refine (C1 _).mono ?_); rintro e w' ⟨rfl, rfl⟩)) | (go_at_call 27; ((with_reducible refine (C2 _).mono ?_); rintro e w' ⟨rfl, rfl⟩)) | fail)
    go_ret
    exact ⟨rfl, HB.out⟩
  cases k3 : decide (1 ≤ a3)
  · have C0 := fun w => rsigned a0 w
    rw [k0] at C0
    have C1 := fun w => rsigned a1 w
    rw [k1] at C1
    have C2 := fun w => rsigned a2 w
    rw [k2] at C2
    have e : (mayL a0 a1 a2 a3) = false := by unfold mayL mayG; simp only [k0, k1, k2, k3, Bool.true_and, Bool.and_true, Bool.false_and, Bool.and_false]
    rw [e]
    clear e
    have b0 : Below w.heap.size w (w.alloc (.cells #[.int .i64 a0, .int .i64 a1, .int .i64 a2, .int .i64 a3] 50)) := (Below.refl _ _).alloc (Nat.le_refl _) _
    have HB := Lib.hid b0
    clear b0
    go_enter Try.func20, Try.ntmps20
    go_wp2_with (first | (go_at_call 27; ((with_reducible refine (C0 _).mono ?_); rintro e w' ⟨rfl, rfl⟩)) | (go_at_call 27; ((with_reducible refine (C1 _).mono ?_); rintro e w' ⟨rfl, rfl⟩)) | (go_at_call 27; ((with_reducible refine (C2 _).mono ?_); rintro e w' ⟨rfl, rfl⟩)) | fail)
    go_ret
    exact ⟨rfl, HB.out⟩
  cases k4 : decide (a3 ≤ 65535)
  · have C0 := fun w => rsigned a0 w
    rw [k0] at C0
    have C1 := fun w => rsigned a1 w
    rw [k1] at C1
    have C2 := fun w => rsigned a2 w
    rw [k2] at C2
    have e : (mayL a0 a1 a2 a3) = false := by unfold mayL mayG; simp only [k0, k1, k2, k3, k4, Bool.true_and, Bool.and_true, Bool.false_and, Bool.and_false]
    rw [e]
    clear e
    have b0 : Below w.heap.size w (w.alloc (.cells #[.int .i64 a0, .int .i64 a1, .int .i64 a2, .int .i64 a3] 50)) := (Below.refl _ _).alloc (Nat.le_refl _) _
    have HB := Lib.hid b0
    clear b0
    go_enter Try.func20, Try.ntmps20
    go_wp2_with (first | (go_at_call 27; ((with_reducible refine (C0 _).mono ?_); rintro e w' ⟨rfl, rfl⟩)) | (go_at_call 27; ((with_reducible refine (C1 _).mono ?_); rintro e w' ⟨rfl, rfl⟩)) | (go_at_call 27; ((with_reducible refine (C2 _).mono ?_); rintro e w' ⟨rfl, rfl⟩)) | fail)
    go_ret
    exact ⟨rfl, HB.out⟩
  have C0 := fun w => rsigned a0 w
  rw [k0] at C0
  have C1 := fun w => rsigned a1 w
  rw [k1] at C1
  have C2 := fun w => rsigned a2 w
  rw [k2] at C2
  have e : (mayL a0 a1 a2 a3) = true := by unfold mayL mayG; simp only [k0, k1, k2, k3, k4, Bool.true_and, Bool.and_true, Bool.false_and, Bool.and_false]
  rw [e]
  clear e
  have b0 : Below w.heap.size w (w.alloc (.cells #[.int .i64 a0, .int .i64 a1, .int .i64 a2, .int .i64 a3] 50)) := (Below.refl _ _).alloc (Nat.le_refl _) _
  have HB := Lib.hid b0
  clear b0
  go_enter Try.func20, Try.ntmps20
  go_wp2_with (first | (go_at_call 27; ((with_reducible refine (C0 _).mono ?_); rintro e w' ⟨rfl, rfl⟩)) | (go_at_call 27; ((with_reducible refine (C1 _).mono ?_); rintro e w' ⟨rfl, rfl⟩)) | (go_at_call 27; ((with_reducible refine (C2 _).mono ?_); rintro e w' ⟨rfl, rfl⟩)) | fail)
  go_ret
  exact ⟨rfl, HB.out⟩
set_option maxRecDepth 100000 in
set_option maxHeartbeats 4000000 in
theorem rMayHead (a0 a1 a2 a3 a4 a5 a6 a7 : Int) (b8 : Bool) (w : World) : Calls Try.prog 10 #[.agg #[.int .i64 a0, .int .i64 a1, .int .i64 a2, .int .i64 a3, .int .i64 a4, .int .i64 a5, .int .i64 a6, .int .i64 a7, .bool b8]] w fun e w' => e = .returned (.bool (mayH a0 a1 a2 a3 a4 a5 a6 a7)) ∧ Below w.heap.size w w' := by
  cases k0 : decide (16 ≤ a0)
  · have e : (mayH a0 a1 a2 a3 a4 a5 a6 a7) = false := by unfold mayH; simp only [k0, Bool.true_and, Bool.and_true, Bool.false_and, Bool.and_false]
    rw [e]
    clear e
    have b0 : Below w.heap.size w (w.alloc (.cells #[.int .i64 a0, .int .i64 a1, .int .i64 a2, .int .i64 a3, .int .i64 a4, .int .i64 a5, .int .i64 a6, .int .i64 a7, .bool b8] 25)) := (Below.refl _ _).alloc (Nat.le_refl _) _
    have HB := Lib.hid b0
    clear b0
    go_enter Try.func10, Try.ntmps10
    go_wp2
    go_ret
    exact ⟨rfl, HB.out⟩
  cases k1 : decide (a0 ≤ 16384)
  · have e : (mayH a0 a1 a2 a3 a4 a5 a6 a7) = false := by unfold mayH; simp only [k0, k1, Bool.true_and, Bool.and_true, Bool.false_and, Bool.and_false]
    rw [e]
    clear e
    have b0 : Below w.heap.size w (w.alloc (.cells #[.int .i64 a0, .int .i64 a1, .int .i64 a2, .int .i64 a3, .int .i64 a4, .int .i64 a5, .int .i64 a6, .int .i64 a7, .bool b8] 25)) := (Below.refl _ _).alloc (Nat.le_refl _) _
    have HB := Lib.hid b0
    clear b0
    go_enter Try.func10, Try.ntmps10
    go_wp2
    go_ret
    exact ⟨rfl, HB.out⟩
  cases k2 : inW a1
  · have C2 := fun w => rword a1 w
    rw [k2] at C2
    have e : (mayH a0 a1 a2 a3 a4 a5 a6 a7) = false := by unfold mayH; simp only [k0, k1, k2, Bool.true_and, Bool.and_true, Bool.false_and, Bool.and_false]
    rw [e]
    clear e
    have b0 : Below w.heap.size w (w.alloc (.cells #[.int .i64 a0, .int .i64 a1, .int .i64 a2, .int .i64 a3, .int .i64 a4, .int .i64 a5, .int .i64 a6, .int .i64 a7, .bool b8] 25)) := (Below.refl _ _).alloc (Nat.le_refl _) _
    have HB := Lib.hid b0
    clear b0
    go_enter Try.func10, Try.ntmps10
    go_wp2_with (first | (go_at_call 26; ((with_reducible refine (C2 _).mono ?_); rintro e w' ⟨rfl, rfl⟩)) | fail)
    go_ret
    exact ⟨rfl, HB.out⟩
  cases k3 : inW a6
  · have C2 := fun w => rword a1 w
    rw [k2] at C2
    have C3 := fun w => rword a6 w
    rw [k3] at C3
    have e : (mayH a0 a1 a2 a3 a4 a5 a6 a7) = false := by unfold mayH; simp only [k0, k1, k2, k3, Bool.true_and, Bool.and_true, Bool.false_and, Bool.and_false]
    rw [e]
    clear e
    have b0 : Below w.heap.size w (w.alloc (.cells #[.int .i64 a0, .int .i64 a1, .int .i64 a2, .int .i64 a3, .int .i64 a4, .int .i64 a5, .int .i64 a6, .int .i64 a7, .bool b8] 25)) := (Below.refl _ _).alloc (Nat.le_refl _) _
    have HB := Lib.hid b0
    clear b0
    go_enter Try.func10, Try.ntmps10
    go_wp2_with (first | (go_at_call 26; ((with_reducible refine (C2 _).mono ?_); rintro e w' ⟨rfl, rfl⟩)) | (go_at_call 26; ((with_reducible refine (C3 _).mono ?_); rintro e w' ⟨rfl, rfl⟩)) | fail)
    go_ret
    exact ⟨rfl, HB.out⟩
  cases k4 : inW a7
  · have C2 := fun w => rword a1 w
    rw [k2] at C2
    have C3 := fun w => rword a6 w
    rw [k3] at C3
    have C4 := fun w => rword a7 w
    rw [k4] at C4
    have e : (mayH a0 a1 a2 a3 a4 a5 a6 a7) = false := by unfold mayH; simp only [k0, k1, k2, k3, k4, Bool.true_and, Bool.and_true, Bool.false_and, Bool.and_false]
    rw [e]
    clear e
    have b0 : Below w.heap.size w (w.alloc (.cells #[.int .i64 a0, .int .i64 a1, .int .i64 a2, .int .i64 a3, .int .i64 a4, .int .i64 a5, .int .i64 a6, .int .i64 a7, .bool b8] 25)) := (Below.refl _ _).alloc (Nat.le_refl _) _
    have HB := Lib.hid b0
    clear b0
    go_enter Try.func10, Try.ntmps10
    go_wp2_with (first | (go_at_call 26; ((with_reducible refine (C2 _).mono ?_); rintro e w' ⟨rfl, rfl⟩)) | (go_at_call 26; ((with_reducible refine (C3 _).mono ?_); rintro e w' ⟨rfl, rfl⟩)) | (go_at_call 26; ((with_reducible refine (C4 _).mono ?_); rintro e w' ⟨rfl, rfl⟩)) | fail)
    go_ret
    exact ⟨rfl, HB.out⟩
  cases k5 : inS a2
  · have C2 := fun w => rword a1 w
    rw [k2] at C2
    have C3 := fun w => rword a6 w
    rw [k3] at C3
    have C4 := fun w => rword a7 w
    rw [k4] at C4
    have C5 := fun w => rsigned a2 w
    rw [k5] at C5
    have e : (mayH a0 a1 a2 a3 a4 a5 a6 a7) = false := by unfold mayH; simp only [k0, k1, k2, k3, k4, k5, Bool.true_and, Bool.and_true, Bool.false_and, Bool.and_false]
    rw [e]
    clear e
    have b0 : Below w.heap.size w (w.alloc (.cells #[.int .i64 a0, .int .i64 a1, .int .i64 a2, .int .i64 a3, .int .i64 a4, .int .i64 a5, .int .i64 a6, .int .i64 a7, .bool b8] 25)) := (Below.refl _ _).alloc (Nat.le_refl _) _
    have HB := Lib.hid b0
    clear b0
    go_enter Try.func10, Try.ntmps10
    go_wp2_with (first | (go_at_call 26; ((with_reducible refine (C2 _).mono ?_); rintro e w' ⟨rfl, rfl⟩)) | (go_at_call 26; ((with_reducible refine (C3 _).mono ?_); rintro e w' ⟨rfl, rfl⟩)) | (go_at_call 26; ((with_reducible refine (C4 _).mono ?_); rintro e w' ⟨rfl, rfl⟩)) | (go_at_call 27; ((with_reducible refine (C5 _).mono ?_); rintro e w' ⟨rfl, rfl⟩)) | fail)
    go_ret
    exact ⟨rfl, HB.out⟩
  cases k6 : inS a3
  · have C2 := fun w => rword a1 w
    rw [k2] at C2
    have C3 := fun w => rword a6 w
    rw [k3] at C3
    have C4 := fun w => rword a7 w
    rw [k4] at C4
    have C5 := fun w => rsigned a2 w
    rw [k5] at C5
    have C6 := fun w => rsigned a3 w
    rw [k6] at C6
    have e : (mayH a0 a1 a2 a3 a4 a5 a6 a7) = false := by unfold mayH; simp only [k0, k1, k2, k3, k4, k5, k6, Bool.true_and, Bool.and_true, Bool.false_and, Bool.and_false]
    rw [e]
    clear e
    have b0 : Below w.heap.size w (w.alloc (.cells #[.int .i64 a0, .int .i64 a1, .int .i64 a2, .int .i64 a3, .int .i64 a4, .int .i64 a5, .int .i64 a6, .int .i64 a7, .bool b8] 25)) := (Below.refl _ _).alloc (Nat.le_refl _) _
    have HB := Lib.hid b0
    clear b0
    go_enter Try.func10, Try.ntmps10
    go_wp2_with (first | (go_at_call 26; ((with_reducible refine (C2 _).mono ?_); rintro e w' ⟨rfl, rfl⟩)) | (go_at_call 26; ((with_reducible refine (C3 _).mono ?_); rintro e w' ⟨rfl, rfl⟩)) | (go_at_call 26; ((with_reducible refine (C4 _).mono ?_); rintro e w' ⟨rfl, rfl⟩)) | (go_at_call 27; ((with_reducible refine (C5 _).mono ?_); rintro e w' ⟨rfl, rfl⟩)) | (go_at_call 27; ((with_reducible refine (C6 _).mono ?_); rintro e w' ⟨rfl, rfl⟩)) | fail)
    go_ret
    exact ⟨rfl, HB.out⟩
  cases k7 : inS a4
  · have C2 := fun w => rword a1 w
    rw [k2] at C2
    have C3 := fun w => rword a6 w
    rw [k3] at C3
    have C4 := fun w => rword a7 w
    rw [k4] at C4
    have C5 := fun w => rsigned a2 w
    rw [k5] at C5
    have C6 := fun w => rsigned a3 w
    rw [k6] at C6
    have C7 := fun w => rsigned a4 w
    rw [k7] at C7
    have e : (mayH a0 a1 a2 a3 a4 a5 a6 a7) = false := by unfold mayH; simp only [k0, k1, k2, k3, k4, k5, k6, k7, Bool.true_and, Bool.and_true, Bool.false_and, Bool.and_false]
    rw [e]
    clear e
    have b0 : Below w.heap.size w (w.alloc (.cells #[.int .i64 a0, .int .i64 a1, .int .i64 a2, .int .i64 a3, .int .i64 a4, .int .i64 a5, .int .i64 a6, .int .i64 a7, .bool b8] 25)) := (Below.refl _ _).alloc (Nat.le_refl _) _
    have HB := Lib.hid b0
    clear b0
    go_enter Try.func10, Try.ntmps10
    go_wp2_with (first | (go_at_call 26; ((with_reducible refine (C2 _).mono ?_); rintro e w' ⟨rfl, rfl⟩)) | (go_at_call 26; ((with_reducible refine (C3 _).mono ?_); rintro e w' ⟨rfl, rfl⟩)) | (go_at_call 26; ((with_reducible refine (C4 _).mono ?_); rintro e w' ⟨rfl, rfl⟩)) | (go_at_call 27; ((with_reducible refine (C5 _).mono ?_); rintro e w' ⟨rfl, rfl⟩)) | (go_at_call 27; ((with_reducible refine (C6 _).mono ?_); rintro e w' ⟨rfl, rfl⟩)) | (go_at_call 27; ((with_reducible refine (C7 _).mono ?_); rintro e w' ⟨rfl, rfl⟩)) | fail)
    go_ret
    exact ⟨rfl, HB.out⟩
  cases k8 : inS a5
  · have C2 := fun w => rword a1 w
    rw [k2] at C2
    have C3 := fun w => rword a6 w
    rw [k3] at C3
    have C4 := fun w => rword a7 w
    rw [k4] at C4
    have C5 := fun w => rsigned a2 w
    rw [k5] at C5
    have C6 := fun w => rsigned a3 w
    rw [k6] at C6
    have C7 := fun w => rsigned a4 w
    rw [k7] at C7
    have C8 := fun w => rsigned a5 w
    rw [k8] at C8
    have e : (mayH a0 a1 a2 a3 a4 a5 a6 a7) = false := by unfold mayH; simp only [k0, k1, k2, k3, k4, k5, k6, k7, k8, Bool.true_and, Bool.and_true, Bool.false_and, Bool.and_false]
    rw [e]
    clear e
    have b0 : Below w.heap.size w (w.alloc (.cells #[.int .i64 a0, .int .i64 a1, .int .i64 a2, .int .i64 a3, .int .i64 a4, .int .i64 a5, .int .i64 a6, .int .i64 a7, .bool b8] 25)) := (Below.refl _ _).alloc (Nat.le_refl _) _
    have HB := Lib.hid b0
    clear b0
    go_enter Try.func10, Try.ntmps10
    go_wp2_with (first | (go_at_call 26; ((with_reducible refine (C2 _).mono ?_); rintro e w' ⟨rfl, rfl⟩)) | (go_at_call 26; ((with_reducible refine (C3 _).mono ?_); rintro e w' ⟨rfl, rfl⟩)) | (go_at_call 26; ((with_reducible refine (C4 _).mono ?_); rintro e w' ⟨rfl, rfl⟩)) | (go_at_call 27; ((with_reducible refine (C5 _).mono ?_); rintro e w' ⟨rfl, rfl⟩)) | (go_at_call 27; ((with_reducible refine (C6 _).mono ?_); rintro e w' ⟨rfl, rfl⟩)) | (go_at_call 27; ((with_reducible refine (C7 _).mono ?_); rintro e w' ⟨rfl, rfl⟩)) | (go_at_call 27; ((with_reducible refine (C8 _).mono ?_); rintro e w' ⟨rfl, rfl⟩)) | fail)
    go_ret
    exact ⟨rfl, HB.out⟩
  have C2 := fun w => rword a1 w
  rw [k2] at C2
  have C3 := fun w => rword a6 w
  rw [k3] at C3
  have C4 := fun w => rword a7 w
  rw [k4] at C4
  have C5 := fun w => rsigned a2 w
  rw [k5] at C5
  have C6 := fun w => rsigned a3 w
  rw [k6] at C6
  have C7 := fun w => rsigned a4 w
  rw [k7] at C7
  have C8 := fun w => rsigned a5 w
  rw [k8] at C8
  have e : (mayH a0 a1 a2 a3 a4 a5 a6 a7) = true := by unfold mayH; simp only [k0, k1, k2, k3, k4, k5, k6, k7, k8, Bool.true_and, Bool.and_true, Bool.false_and, Bool.and_false]
  rw [e]
  clear e
  have b0 : Below w.heap.size w (w.alloc (.cells #[.int .i64 a0, .int .i64 a1, .int .i64 a2, .int .i64 a3, .int .i64 a4, .int .i64 a5, .int .i64 a6, .int .i64 a7, .bool b8] 25)) := (Below.refl _ _).alloc (Nat.le_refl _) _
  have HB := Lib.hid b0
  clear b0
  go_enter Try.func10, Try.ntmps10
  go_wp2_with (first | (go_at_call 26; ((with_reducible refine (C2 _).mono ?_); rintro e w' ⟨rfl, rfl⟩)) | (go_at_call 26; ((with_reducible refine (C3 _).mono ?_); rintro e w' ⟨rfl, rfl⟩)) | (go_at_call 26; ((with_reducible refine (C4 _).mono ?_); rintro e w' ⟨rfl, rfl⟩)) | (go_at_call 27; ((with_reducible refine (C5 _).mono ?_); rintro e w' ⟨rfl, rfl⟩)) | (go_at_call 27; ((with_reducible refine (C6 _).mono ?_); rintro e w' ⟨rfl, rfl⟩)) | (go_at_call 27; ((with_reducible refine (C7 _).mono ?_); rintro e w' ⟨rfl, rfl⟩)) | (go_at_call 27; ((with_reducible refine (C8 _).mono ?_); rintro e w' ⟨rfl, rfl⟩)) | fail)
  go_ret
  exact ⟨rfl, HB.out⟩

end Go.Proofs.Ytbomgaacahaofaa
