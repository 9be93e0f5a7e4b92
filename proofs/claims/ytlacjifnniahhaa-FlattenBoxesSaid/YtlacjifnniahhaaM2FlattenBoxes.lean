/- Part 22 of the proof: OpenNums, FlOp, FlZ. -/
import Derived.Deep.Slices
import Derived.Deep.Fields
import Derived.SizedLaws
import Derived.Deep.Cut
import Derived.Deep.CutBlock
import Derived.RangeFuncKeeps
import Derived.RangeFuncCalls
import Derived.RangeFuncLeaves
import Derived.RangeFuncFrom
import Derived.RangeFuncNested
import Derived.RangeFuncBound
import Derived.Shelf.Abstract
import Derived.Shelf.RegionOpen
import Derived.WalkKit
import Derived.OwnWalkIn
import Derived.TacticsInMore
import Derived.LoopNIn
import Derived.LoopIn
import Derived.Maps.OwnIn
import Derived.Deep.WholeRow
import Derived.Test.YtlacjifnniahhaaM1FlattenBoxes

namespace Go.Proofs.Ytlacjifnniahhaa
open Go.ChangeShapes Go.WideShapes Go.ChangeAt Go.RowKit

section
variable {H : Type} {enc : TypeId × Value → H} {P : Program}
theorem weights_all {e : TypeId} {d : DataW H} {n : Nat} (hn : n ∈ d.weights P e) : ∀ {l : List (DataW H)}, d ∈ l → n ∈ DataW.weightsAll P e l
  | [], h => (nomatch h)
  | a :: r, h => by
    rw [DataW.weightsAll]
    rcases List.mem_cons.1 h with h | h
    · subst h; exact List.mem_append_left _ hn
    · exact List.mem_append_right _ (weights_all hn h)

theorem cell_lt {w : World} {a : Addr} {v : Value} (h : w.cell? a = some v) : a.block < w.heap.size := by
  rcases Nat.lt_or_ge a.block w.heap.size with h1 | h1
  · exact h1
  · unfold World.cell? at h
    rw [Array.getElem?_eq_none h1] at h
    cases h

/-- A slice of numbers, at the value that a cell holds. -/
theorem open_nums {w : World} {t e : TypeId} {k : IntKind} {base fuel : Nat} {spare : Nat → Bool} {held : Bool} {v : Value} {x : DataW H × List MemPlace}
    (hs : P.underlying t = some (.slice e)) (he : P.underlying e = some (.int k)) (hC : P.cellsOf e = 1) (h : DataW.trod enc P w base spare held fuel t [v] = some x) :
    ∃ (A : Option Addr) (n c : Nat) (zs : List Int), v = .slice A n c ∧ zs.length = n ∧ n ≤ c ∧ c ≤ maxLen ∧ Lists w w.heap.size A (zs.map (Value.int k)) ∧ (∀ z ∈ zs, (Lit.int k z).wf = true) ∧
      ∀ b, (∀ m ∈ x.1.weights P t, m ≤ b) → n * P.bytesOf e ≤ b := by
  rcases open_ints hs he hC h with ⟨hcs, hx⟩ | ⟨a, len, cap, zs, hcs, _, hl, hm, hz, hx, hcell, hwf⟩
  · simp only [List.cons.injEq, and_true] at hcs
    exact ⟨none, 0, 0, [], hcs, rfl, Nat.le_refl _, Nat.zero_le _, Lists.empty _ _ _, (fun z hz => (nomatch hz)), fun b _ => by omega⟩
  · simp only [List.cons.injEq, and_true] at hcs
    have hlen : len ≤ zs.length := by split at hz <;> omega
    have hc : ∀ j u, ((zs.take len).map (Value.int k))[j]? = some u → w.cell? (a.add j) = some u := fun j u hu => by
      rw [List.getElem?_map, Option.map_eq_some_iff] at hu
      obtain ⟨z, hz1, rfl⟩ := hu
      have hj : j < (zs.take len).length := (List.getElem?_eq_some_iff.1 hz1).1
      have hj2 : j < zs.length := by simp at hj; omega
      rw [hcell j hj2]
      simp only [List.getElem?_take, List.length_take] at hz1 hj
      rw [if_pos (by omega)] at hz1
      simp [List.getD, hz1]
    refine ⟨some a, len, cap, zs.take len, hcs, by simp; omega, hl, hm, ⟨fun ha => (nomatch ha), fun a' ha => ?_, fun a' ha hne => ?_⟩, fun z hz' => hwf z (List.mem_of_mem_take hz'), fun b hb => ?_⟩
    · cases ha; exact hc
    · cases ha
      have h0 : 0 < ((zs.take len).map (Value.int k)).length := by
        rcases Nat.eq_zero_or_pos ((zs.take len).map (Value.int k)).length with h | h
        · exact absurd (List.eq_nil_of_length_eq_zero h) hne
        · exact h
      have := cell_lt (hc 0 _ (List.getElem?_eq_getElem h0))
      rwa [addr_add_block] at this
    · subst hx
      have := hb (((lits k (zs.take len) : List (DataW H)).length + (lits k (zs.drop len) : List (DataW H)).length) * P.bytesOf e) (by simp [DataW.weights, hs])
      refine Nat.le_trans (Nat.mul_le_mul_right _ ?_) this
      simp [lits]
      omega

theorem bytes_of_wf {zs : List Int} (h : ∀ z ∈ zs, (Lit.int .u8 z).wf = true) : Bytes8 (zs.map (Value.int .u8)) := fun u hu => by
  obtain ⟨z, hz, rfl⟩ := List.mem_map.1 hu
  have := h z hz
  simp [Lit.wf, IntKind.min, IntKind.max, IntKind.signed, IntKind.bits] at this
  exact ⟨z.toNat, by omega, by congr 1; omega⟩

theorem one_of {w : World} {base fuel : Nat} {spare : Nat → Bool} {held : Bool} {fs : Array Field} {cs : List Value} {ys : List (DataW H × List MemPlace)} (hone : Deep.oneCellFields P fs = true)
    (hg : ∀ (i : Nat) (f : Field), fs[i]? = some f → DataW.trod enc P w base spare held fuel f.type ((cs.drop f.offset).take (P.cellsOf f.type)) = ys[i]?) {j : Nat} {f : Field} {c : Value} {y : DataW H × List MemPlace}
    (hf : fs[j]? = some f) (hc : cs[j]? = some c) (hy : ys[j]? = some y) : DataW.trod enc P w base spare held fuel f.type [c] = some y := by
  have h := hg j f hf
  obtain ⟨h1, h2⟩ := Deep.hone_of hone j f hf
  obtain ⟨hj, hcj⟩ := List.getElem?_eq_some_iff.1 hc
  rw [h1, h2, hy, List.drop_eq_getElem_cons hj, hcj] at h
  exact h
end

end Go.Proofs.Ytlacjifnniahhaa

namespace Go.Proofs.Ytlacjifnniahhaa
open Go Go.ChangeShapes Go.WideShapes Go.ChangeAt Go.RowKit
set_option linter.unusedVariables false
set_option linter.unusedSimpArgs false

theorem choose_listF {α : Type} {p : Nat → α → Prop} : ∀ {n : Nat}, (∀ i, i < n → ∃ x, p i x) → ∃ L : List α, L.length = n ∧ ∀ i x, L[i]? = some x → p i x
  | 0, _ => ⟨[], rfl, fun i x h => by simp at h⟩
  | n + 1, h => by
    obtain ⟨L, h1, h2⟩ := choose_listF (n := n) fun i hi => h i (by omega)
    obtain ⟨x, hx⟩ := h n (by omega)
    refine ⟨L ++ [x], by simp [h1], fun i y hy => ?_⟩
    rcases Nat.lt_or_ge i n with hi | hi
    · rw [List.getElem?_append_left (by omega)] at hy
      exact h2 i y hy
    · rw [List.getElem?_append_right (by omega)] at hy
      have h3 : i - L.length = 0 := by
        rcases Nat.eq_zero_or_pos (i - L.length) with h | h
        · exact h
        · rw [List.getElem?_eq_none (by simp; omega)] at hy; cases hy
      rw [h3] at hy
      cases hy
      rw [show i = n by omega]
      exact hx
theorem flat_back {α : Type} {f : α → List Value} {sz : Nat} (hf : ∀ x, (f x).length = sz) (hs : 0 < sz) (L : List α) (j : Nat) (v : Value) (h : (L.flatMap f)[j]? = some v) : ∃ x, L[j / sz]? = some x ∧ (f x)[j % sz]? = some v := by
  have hj := (List.getElem?_eq_some_iff.1 h).1
  rw [flat_len hf] at hj
  have hk : j / sz < L.length := (Nat.div_lt_iff_lt_mul hs).2 hj
  obtain ⟨x, hx⟩ := at_someF hk
  have hm : j % sz < (f x).length := by rw [hf]; exact Nat.mod_lt _ hs
  obtain ⟨u, hu⟩ := at_someF hm
  have := flat_at hf L _ x hx _ u hu
  rw [Nat.mul_comm, Nat.div_add_mod] at this
  rw [this] at h
  cases h
  exact ⟨x, hx, hu⟩

section
variable {H : Type} {enc : TypeId × Value → H} {P : Program} {α : Type} {f : α → List Value} {sz : Nat}
theorem open_rowsF {w : World} {t e : TypeId} {base fuel : Nat} {spare : Nat → Bool} {held : Bool} {v : Value} {x : DataW H × List MemPlace}
    (ht : P.underlying t = some (.slice e)) (hC : P.cellsOf e = sz) (hf : ∀ x, (f x).length = sz) (hs : 0 < sz) (hE : ∀ {fuel : Nat} {cs : List Value} {z : DataW H × List MemPlace}, cs.length = sz → DataW.trod enc P w base spare held fuel e cs = some z → ∃ x : α, cs = f x)
    (h : DataW.trod enc P w base spare held fuel t [v] = some x) :
    ∃ (A : Option Addr) (c : Nat) (L : List α), v = .slice A L.length c ∧ Lists w w.heap.size A (L.flatMap f) ∧ ∀ b, (∀ m ∈ x.1.weights P t, m ≤ b) → L.length * P.bytesOf e ≤ b := by
  rcases Deep.open_slice ht h with ⟨hcs, _⟩ | ⟨a, len, cap, m, n, D, Pl, hcs, hb, hl, hm, hmm, hx, hi⟩
  · simp only [List.cons.injEq, and_true] at hcs
    exact ⟨none, 0, [], hcs, Lists.empty _ _ _, fun b _ => by simp⟩
  · simp only [List.cons.injEq, and_true] at hcs
    have hlm : len ≤ m := by split at hmm <;> omega
    obtain ⟨L, hLl, hL⟩ := choose_listF (n := len) (p := fun i (q : α) => ∀ j u, (f q)[j]? = some u → w.cell? (a.add (i * sz + j)) = some u) fun i hil => by
      obtain ⟨cs', hc, ht'⟩ := hi i (by omega)
      rw [hC] at hc
      obtain ⟨_, hcl, hat⟩ := World.cells?_some hc
      obtain ⟨q, rfl⟩ := hE hcl ht'
      refine ⟨q, fun j u hu => ?_⟩
      have hj := (List.getElem?_eq_some_iff.1 hu).1
      rw [hf] at hj
      have := hat j hj
      rw [Go.Deep.add_add] at this
      rw [this]
      exact hu
    have hcell : ∀ j u, (L.flatMap f)[j]? = some u → w.cell? (a.add j) = some u := fun j u hu => by
      obtain ⟨q, h1, h2⟩ := flat_back hf hs L j u hu
      have := hL _ q h1 _ u h2
      rw [Nat.mul_comm, Nat.div_add_mod] at this
      exact this
    refine ⟨some a, cap, L, by rw [hLl]; exact hcs, ⟨fun ha => (nomatch ha), fun a' ha => ?_, fun a' ha hne => ?_⟩, fun b hbw => ?_⟩
    · cases ha; exact hcell
    · cases ha
      have h0 : 0 < (L.flatMap f).length := by
        rcases Nat.eq_zero_or_pos (L.flatMap f).length with h | h
        · exact absurd (List.eq_nil_of_length_eq_zero h) hne
        · exact h
      have := cell_lt (hcell 0 _ (List.getElem?_eq_getElem h0))
      rwa [addr_add_block] at this
    · subst hx
      refine Nat.le_trans ?_ (hbw _ (by simp only [DataW.weights, ht]; exact List.mem_cons_self))
      refine Nat.mul_le_mul_right _ ?_
      rw [hLl]
      simp
theorem open_outF {w : World} {t u e : TypeId} {by_ : Nat} {base : Nat} {spare : Nat → Bool} {held : Bool} {r : Reach} {b0 : Nat} {v : Value} {d : DataW H} {p : List MemPlace}
    (ht : P.underlying t = some (.slice u)) (hu : P.underlying u = some (.slice e)) (hcu : P.cellsOf u = 1) (hC : P.cellsOf e = sz) (hf : ∀ x, (f x).length = sz) (hs : 0 < sz) (hE : ∀ {fuel : Nat} {cs : List Value} {z : DataW H × List MemPlace}, cs.length = sz → DataW.trod enc P w base spare held fuel e cs = some z → ∃ x : α, cs = f x) (hb : P.bytesOf e = by_) (hby : 8 ≤ by_)
    (hv : Value.okWide P w r b0 t v) (h : DataW.Trod enc P w base spare held t v d p) (hz : ∀ m ∈ d.weights P t, m ≤ reachBytes) :
    ∃ (A : Option Addr) (c : Nat) (Ls : List (List α)), v = .slice A Ls.length c ∧ OutF f w w.heap.size A Ls ∧ (∀ L ∈ Ls, L.length ≤ 17592186044416) ∧ Ls.length ≤ 9223372036854775807 ∧ Ls.length ≤ c ∧ c ≤ 9223372036854775807 := by
  obtain ⟨a0, len, cap, rfl⟩ := okWide_slice ht hv
  obtain ⟨fuel, hf0⟩ := h
  rcases Deep.open_slice ht hf0 with ⟨hcs, _⟩ | ⟨a, len', cap', m, n, D, Pl, hcs, hbb, hl, hm, hmm, hx, hi⟩
  · simp [Value.cells] at hcs
    obtain ⟨rfl, rfl, rfl⟩ := hcs
    exact ⟨none, 0, [], rfl, ⟨fun i L h => by simp at h⟩, fun L h => by simp at h, by simp, by simp, by simp⟩
  · simp [Value.cells] at hcs
    obtain ⟨rfl, rfl, rfl⟩ := hcs
    unfold maxLen at hm
    have hlm : len ≤ m := by split at hmm <;> omega
    obtain ⟨Ls, hLl, hLs⟩ := choose_listF (n := len) (p := fun i (L : List α) => (∃ Ai ci, w.cell? (a.add i) = some (.slice Ai L.length ci) ∧ Lists w w.heap.size Ai (L.flatMap f)) ∧ L.length ≤ 17592186044416) fun i hil => by
      obtain ⟨cs', hc, ht'⟩ := hi i (by omega)
      rw [hcu, Nat.mul_one] at hc
      obtain ⟨_, hcl, hat⟩ := World.cells?_some hc
      match cs', hcl with
      | [c0], _ =>
        obtain ⟨Ai, ci, L, rfl, hL, hw⟩ := open_rowsF hu hC hf hs hE ht'
        have a0 : w.cell? (a.add i) = some (.slice Ai L.length ci) := by have := hat 0 (by omega); rw [Go.Deep.add_add] at this; exact this
        refine ⟨L, ⟨Ai, ci, a0, hL⟩, ?_⟩
        have := hw reachBytes fun m hm => hz m (by
          simp only [Prod.mk.injEq] at hx
          rw [hx.1]
          simp only [DataW.weights, ht]
          exact List.mem_cons_of_mem _ (List.mem_append_left _ (weights_all hm (List.mem_map.2 ⟨i, List.mem_range.2 hil, rfl⟩))))
        rw [hb] at this
        have hr := reachBytes_lt
        have := Nat.le_trans (Nat.mul_le_mul_left L.length hby) this
        omega
    refine ⟨some a, cap, Ls, by rw [hLl], ⟨fun i L hL => ?_⟩, fun L hL => ?_, by omega, by omega, by omega⟩
    · obtain ⟨⟨Ai, ci, h1, h2⟩, _⟩ := hLs i L hL
      have hlt := cell_lt h1
      obtain ⟨b, o, s⟩ := a
      have hs : s = none := by
        obtain ⟨L0, hL0⟩ := at_someF (L := Ls) (k := 0) (by have := (List.getElem?_eq_some_iff.1 hL).1; omega)
        obtain ⟨⟨_, _, h4, _⟩, _⟩ := hLs 0 L0 hL0
        simpa [Addr.add] using World.cell?_spot h4
      subst hs
      rw [addr_plain] at h1 hlt
      exact ⟨b, o, Ai, ci, rfl, hlt, h1, h2⟩
    · obtain ⟨i, hi⟩ := List.mem_iff_getElem?.1 hL
      exact (hLs i L hi).2
end
end Go.Proofs.Ytlacjifnniahhaa

namespace Go.Proofs.Ytlacjifnniahhaa
open Go Go.RowKit Go.Shelf
attribute [local go_sem] Oper.semAt_some
set_option linter.unusedVariables false
set_option linter.unusedSimpArgs false

set_option maxRecDepth 100000 in
set_option maxHeartbeats 2000000 in
theorem fbox_bad (A : Option Addr) (c : Nat) (Ls : List (List Dt)) (w : World) (h : OutF dtL w w.heap.size A Ls) (hs : SmF Ls) (hb : mayF Ls ≠ 0) : Calls Try.prog 21 #[.slice A Ls.length c] w fun e w' => e = .returned (.tuple #[.agg #[.int .i64 0, .int .i64 0, .int .i64 0, .int .i64 0], .int .i64 (mayF Ls)]) ∧ Below w.heap.size w w' := by
  have B0 := below_a1 w (.cells #[.int .i64 0, .int .i64 0, .int .i64 0, .int .i64 0] 48)
  have KR := Blk.new w 48 #[.int .i64 0, .int .i64 0, .int .i64 0, .int .i64 0]
  have CM := fmay_any A c Ls (w.alloc (.cells #[.int .i64 0, .int .i64 0, .int .i64 0, .int .i64 0] 48)) ((h.below B0).more B0.size) hs
  obtain ⟨e0, he0⟩ : ∃ e0, e0 = mayF Ls := ⟨_, rfl⟩
  rw [← he0] at CM hb ⊢
  have d1 : (e0 != 0) = true := by simpa using hb
  obtain ⟨wA, hwA⟩ : ∃ wA, wA = w.alloc (.cells #[.int .i64 0, .int .i64 0, .int .i64 0, .int .i64 0] 48) := ⟨_, rfl⟩
  rw [← hwA] at B0 KR CM
  have HA := Lib.hid hwA
  clear he0 h hs hwA
  refine (callsIn_wide (n := 3)).1 ?_
  refine callsIn_of_wp_marks Try.func21 rfl trivial ?_
  simp only [Try.ntmps21, List.size_toArray, List.length_cons, List.length_nil, Nat.reduceAdd, Nat.reduceSub, Array.replicate_succ, Array.replicate_zero, List.push_toArray, List.append_toArray, List.nil_append, List.cons_append]
  refine wpIn_wide.2 ?_
  go_upto_region 1 with fail
  rw [← HA.out]
  go_wp2_with (first
    | (go_at_call 19; (with_reducible refine (CM).mono ?_); rintro e w1 ⟨rfl, b1⟩; have K1 := KR.below b1; have B1 := B0.trans (b1.mono B0.size))
    | (refine wpList_store_row rfl 48 (.tmp 2) (.tmp 15) (by with_reducible rfl) w.heap.size #[.int .i64 0, .int .i64 0, .int .i64 0, .int .i64 0] (by rfl) (by rfl) 48 #[.int .i64 0, .int .i64 0, .int .i64 0, .int .i64 0] (by exact K1) flQInfo rfl (by simp [Value.oneCell']) ?_))
  refine retM0 rfl (v := .tuple #[.agg #[.int .i64 0, .int .i64 0, .int .i64 0, .int .i64 0], .int .i64 e0]) (results_row_tmp Try.results21 _ _ w.heap.size 48 #[.int .i64 0, .int .i64 0, .int .i64 0, .int .i64 0] (0, 0) _ (.int .i64 e0) (by rfl) (by rfl) (show Blk _ _ _ _ from blk_row K1 _) Try.underlying48 rfl flQInfo) ⟨rfl, below_setRow B1 (Nat.le_refl _) _⟩
open Go.ChangeShapes Go.WideShapes Go.ChangeAt
theorem cellsIZF : Try.prog.cellsOf 3 = 1 := by kernel_rfl
section
variable {H : Type} {enc : TypeId × Value → H}
set_option maxRecDepth 100000 in
theorem open_dtF {w : World} {base fuel : Nat} {spare : Nat → Bool} {held : Bool} {cs : List Value} {x : DataW H × List MemPlace} (hl : cs.length = 2)
    (h : DataW.trod enc Try.prog w base spare held fuel 27 cs = some x) : ∃ d : Dt, cs = dtL d := by
  match cs, hl with
  | [c0, c1], _ =>
    obtain ⟨zs, m, _, _, _, hlen2, hb⟩ := DataW.trod_struct Try.underlying27 h
    match zs, hlen2 with
    | [z0, z1], _ =>
      have k0 := hb 0 _ rfl
      have k1 := hb 1 _ rfl
      simp [cellsIZF] at k0 k1
      obtain ⟨a1, e1, _⟩ := DataW.trod_int Try.underlying3 k0
      obtain ⟨a2, e2, _⟩ := DataW.trod_int Try.underlying3 k1
      simp at e1 e2
      subst e1 e2
      exact ⟨(a1, a2), rfl⟩
end
end Go.Proofs.Ytlacjifnniahhaa
