/- Part 22 of the proof: OpenNums, FlOp, FlZ, Fm1, Fm2, Fm3, Fm4, Fm5. -/
import Derived.Deep.Slices
import Derived.Deep.Fields
import Derived.SizedLaws
import Derived.Deep.Cut
import Derived.Deep.CutBlock
import Derived.RangeFuncKeeps
import Derived.RangeFuncCalls
import Derived.RangeFuncLeaves
import Derived.RangeFuncFrom
import Derived.RangeFuncNested
import Derived.RangeFuncBound
import Derived.Shelf.Abstract
import Derived.Shelf.RegionOpen
import Derived.WalkKit
import Derived.OwnWalkIn
import Derived.TacticsInMore
import Derived.LoopNIn
import Derived.LoopIn
import Derived.Maps.OwnIn
import Derived.Deep.WholeRow
import Derived.Test.YtlacjifnniahhaaM1FlattenPhases

namespace Go.Proofs.Ytlacjifnniahhaa
open Go.ChangeShapes Go.WideShapes Go.ChangeAt Go.RowKit

section
variable {H : Type} {enc : TypeId × Value → H} {P : Program}
theorem weights_all {e : TypeId} {d : DataW H} {n : Nat} (hn : n ∈ d.weights P e) : ∀ {l : List (DataW H)}, d ∈ l → n ∈ DataW.weightsAll P e l
  | [], h => (nomatch h)
  | a :: r, h => by
    rw [DataW.weightsAll]
    rcases List.mem_cons.1 h with h | h
    · subst h; exact List.mem_append_left _ hn
    · exact List.mem_append_right _ (weights_all hn h)

theorem cell_lt {w : World} {a : Addr} {v : Value} (h : w.cell? a = some v) : a.block < w.heap.size := by
  rcases Nat.lt_or_ge a.block w.heap.size with h1 | h1
  · exact h1
  · unfold World.cell? at h
    rw [Array.getElem?_eq_none h1] at h
    cases h

/-- A slice of numbers, at the value that a cell holds. -/
theorem open_nums {w : World} {t e : TypeId} {k : IntKind} {base fuel : Nat} {spare : Nat → Bool} {held : Bool} {v : Value} {x : DataW H × List MemPlace}
    (hs : P.underlying t = some (.slice e)) (he : P.underlying e = some (.int k)) (hC : P.cellsOf e = 1) (h : DataW.trod enc P w base spare held fuel t [v] = some x) :
    ∃ (A : Option Addr) (n c : Nat) (zs : List Int), v = .slice A n c ∧ zs.length = n ∧ n ≤ c ∧ c ≤ maxLen ∧ Lists w w.heap.size A (zs.map (Value.int k)) ∧ (∀ z ∈ zs, (Lit.int k z).wf = true) ∧
      ∀ b, (∀ m ∈ x.1.weights P t, m ≤ b) → n * P.bytesOf e ≤ b := by
  rcases open_ints hs he hC h with ⟨hcs, hx⟩ | ⟨a, len, cap, zs, hcs, _, hl, hm, hz, hx, hcell, hwf⟩
  · simp only [List.cons.injEq, and_true] at hcs
    exact ⟨none, 0, 0, [], hcs, rfl, Nat.le_refl _, Nat.zero_le _, Lists.empty _ _ _, (fun z hz => (nomatch hz)), fun b _ => by omega⟩
  · simp only [List.cons.injEq, and_true] at hcs
    have hlen : len ≤ zs.length := by split at hz <;> omega
    have hc : ∀ j u, ((zs.take len).map (Value.int k))[j]? = some u → w.cell? (a.add j) = some u := fun j u hu => by
      rw [List.getElem?_map, Option.map_eq_some_iff] at hu
      obtain ⟨z, hz1, rfl⟩ := hu
      have hj : j < (zs.take len).length := (List.getElem?_eq_some_iff.1 hz1).1
      have hj2 : j < zs.length := by simp at hj; omega
      rw [hcell j hj2]
      simp only [List.getElem?_take, List.length_take] at hz1 hj
      rw [if_pos (by omega)] at hz1
      simp [List.getD, hz1]
    refine ⟨some a, len, cap, zs.take len, hcs, by simp; omega, hl, hm, ⟨fun ha => (nomatch ha), fun a' ha => ?_, fun a' ha hne => ?_⟩, fun z hz' => hwf z (List.mem_of_mem_take hz'), fun b hb => ?_⟩
    · cases ha; exact hc
    · cases ha
      have h0 : 0 < ((zs.take len).map (Value.int k)).length := by
        rcases Nat.eq_zero_or_pos ((zs.take len).map (Value.int k)).length with h | h
        · exact absurd (List.eq_nil_of_length_eq_zero h) hne
        · exact h
      have := cell_lt (hc 0 _ (List.getElem?_eq_getElem h0))
      rwa [addr_add_block] at this
    · subst hx
      have := hb (((lits k (zs.take len) : List (DataW H)).length + (lits k (zs.drop len) : List (DataW H)).length) * P.bytesOf e) (by simp [DataW.weights, hs])
      refine Nat.le_trans (Nat.mul_le_mul_right _ ?_) this
      simp [lits]
      omega

theorem bytes_of_wf {zs : List Int} (h : ∀ z ∈ zs, (Lit.int .u8 z).wf = true) : Bytes8 (zs.map (Value.int .u8)) := fun u hu => by
  obtain ⟨z, hz, rfl⟩ := List.mem_map.1 hu
  have := h z hz
  simp [Lit.wf, IntKind.min, IntKind.max, IntKind.signed, IntKind.bits] at this
  exact ⟨z.toNat, by omega, by congr 1; omega⟩

theorem one_of {w : World} {base fuel : Nat} {spare : Nat → Bool} {held : Bool} {fs : Array Field} {cs : List Value} {ys : List (DataW H × List MemPlace)} (hone : Deep.oneCellFields P fs = true)
    (hg : ∀ (i : Nat) (f : Field), fs[i]? = some f → DataW.trod enc P w base spare held fuel f.type ((cs.drop f.offset).take (P.cellsOf f.type)) = ys[i]?) {j : Nat} {f : Field} {c : Value} {y : DataW H × List MemPlace}
    (hf : fs[j]? = some f) (hc : cs[j]? = some c) (hy : ys[j]? = some y) : DataW.trod enc P w base spare held fuel f.type [c] = some y := by
  have h := hg j f hf
  obtain ⟨h1, h2⟩ := Deep.hone_of hone j f hf
  obtain ⟨hj, hcj⟩ := List.getElem?_eq_some_iff.1 hc
  rw [h1, h2, hy, List.drop_eq_getElem_cons hj, hcj] at h
  exact h
end

end Go.Proofs.Ytlacjifnniahhaa

namespace Go.Proofs.Ytlacjifnniahhaa
open Go Go.ChangeShapes Go.WideShapes Go.ChangeAt Go.RowKit
set_option linter.unusedVariables false
set_option linter.unusedSimpArgs false

theorem choose_listF {α : Type} {p : Nat → α → Prop} : ∀ {n : Nat}, (∀ i, i < n → ∃ x, p i x) → ∃ L : List α, L.length = n ∧ ∀ i x, L[i]? = some x → p i x
  | 0, _ => ⟨[], rfl, fun i x h => by simp at h⟩
  | n + 1, h => by
    obtain ⟨L, h1, h2⟩ := choose_listF (n := n) fun i hi => h i (by omega)
    obtain ⟨x, hx⟩ := h n (by omega)
    refine ⟨L ++ [x], by simp [h1], fun i y hy => ?_⟩
    rcases Nat.lt_or_ge i n with hi | hi
    · rw [List.getElem?_append_left (by omega)] at hy
      exact h2 i y hy
    · rw [List.getElem?_append_right (by omega)] at hy
      have h3 : i - L.length = 0 := by
        rcases Nat.eq_zero_or_pos (i - L.length) with h | h
        · exact h
        · rw [List.getElem?_eq_none (by simp; omega)] at hy; cases hy
      rw [h3] at hy
      cases hy
      rw [show i = n by omega]
      exact hx
theorem flat_back {α : Type} {f : α → List Value} {sz : Nat} (hf : ∀ x, (f x).length = sz) (hs : 0 < sz) (L : List α) (j : Nat) (v : Value) (h : (L.flatMap f)[j]? = some v) : ∃ x, L[j / sz]? = some x ∧ (f x)[j % sz]? = some v := by
  have hj := (List.getElem?_eq_some_iff.1 h).1
  rw [flat_len hf] at hj
  have hk : j / sz < L.length := (Nat.div_lt_iff_lt_mul hs).2 hj
  obtain ⟨x, hx⟩ := at_someF hk
  have hm : j % sz < (f x).length := by rw [hf]; exact Nat.mod_lt _ hs
  obtain ⟨u, hu⟩ := at_someF hm
  have := flat_at hf L _ x hx _ u hu
  rw [Nat.mul_comm, Nat.div_add_mod] at this
  rw [this] at h
  cases h
  exact ⟨x, hx, hu⟩

section
variable {H : Type} {enc : TypeId × Value → H} {P : Program} {α : Type} {f : α → List Value} {sz : Nat}
theorem open_rowsF {w : World} {t e : TypeId} {base fuel : Nat} {spare : Nat → Bool} {held : Bool} {v : Value} {x : DataW H × List MemPlace}
    (ht : P.underlying t = some (.slice e)) (hC : P.cellsOf e = sz) (hf : ∀ x, (f x).length = sz) (hs : 0 < sz) (hE : ∀ {fuel : Nat} {cs : List Value} {z : DataW H × List MemPlace}, cs.length = sz → DataW.trod enc P w base spare held fuel e cs = some z → ∃ x : α, cs = f x)
    (h : DataW.trod enc P w base spare held fuel t [v] = some x) :
    ∃ (A : Option Addr) (c : Nat) (L : List α), v = .slice A L.length c ∧ Lists w w.heap.size A (L.flatMap f) ∧ ∀ b, (∀ m ∈ x.1.weights P t, m ≤ b) → L.length * P.bytesOf e ≤ b := by
  rcases Deep.open_slice ht h with ⟨hcs, _⟩ | ⟨a, len, cap, m, n, D, Pl, hcs, hb, hl, hm, hmm, hx, hi⟩
  · simp only [List.cons.injEq, and_true] at hcs
    exact ⟨none, 0, [], hcs, Lists.empty _ _ _, fun b _ => by simp⟩
  · simp only [List.cons.injEq, and_true] at hcs
    have hlm : len ≤ m := by split at hmm <;> omega
    obtain ⟨L, hLl, hL⟩ := choose_listF (n := len) (p := fun i (q : α) => ∀ j u, (f q)[j]? = some u → w.cell? (a.add (i * sz + j)) = some u) fun i hil => by
      obtain ⟨cs', hc, ht'⟩ := hi i (by omega)
      rw [hC] at hc
      obtain ⟨_, hcl, hat⟩ := World.cells?_some hc
      obtain ⟨q, rfl⟩ := hE hcl ht'
      refine ⟨q, fun j u hu => ?_⟩
      have hj := (List.getElem?_eq_some_iff.1 hu).1
      rw [hf] at hj
      have := hat j hj
      rw [Go.Deep.add_add] at this
      rw [this]
      exact hu
    have hcell : ∀ j u, (L.flatMap f)[j]? = some u → w.cell? (a.add j) = some u := fun j u hu => by
      obtain ⟨q, h1, h2⟩ := flat_back hf hs L j u hu
      have := hL _ q h1 _ u h2
      rw [Nat.mul_comm, Nat.div_add_mod] at this
      exact this
    refine ⟨some a, cap, L, by rw [hLl]; exact hcs, ⟨fun ha => (nomatch ha), fun a' ha => ?_, fun a' ha hne => ?_⟩, fun b hbw => ?_⟩
    · cases ha; exact hcell
    · cases ha
      have h0 : 0 < (L.flatMap f).length := by
        rcases Nat.eq_zero_or_pos (L.flatMap f).length with h | h
        · exact absurd (List.eq_nil_of_length_eq_zero h) hne
        · exact h
      have := cell_lt (hcell 0 _ (List.getElem?_eq_getElem h0))
      rwa [addr_add_block] at this
    · subst hx
      refine Nat.le_trans ?_ (hbw _ (by simp only [DataW.weights, ht]; exact List.mem_cons_self))
      refine Nat.mul_le_mul_right _ ?_
      rw [hLl]
      simp
theorem open_outF {w : World} {t u e : TypeId} {by_ : Nat} {base : Nat} {spare : Nat → Bool} {held : Bool} {r : Reach} {b0 : Nat} {v : Value} {d : DataW H} {p : List MemPlace}
    (ht : P.underlying t = some (.slice u)) (hu : P.underlying u = some (.slice e)) (hcu : P.cellsOf u = 1) (hC : P.cellsOf e = sz) (hf : ∀ x, (f x).length = sz) (hs : 0 < sz) (hE : ∀ {fuel : Nat} {cs : List Value} {z : DataW H × List MemPlace}, cs.length = sz → DataW.trod enc P w base spare held fuel e cs = some z → ∃ x : α, cs = f x) (hb : P.bytesOf e = by_) (hby : 8 ≤ by_)
    (hv : Value.okWide P w r b0 t v) (h : DataW.Trod enc P w base spare held t v d p) (hz : ∀ m ∈ d.weights P t, m ≤ reachBytes) :
    ∃ (A : Option Addr) (c : Nat) (Ls : List (List α)), v = .slice A Ls.length c ∧ OutF f w w.heap.size A Ls ∧ (∀ L ∈ Ls, L.length ≤ 17592186044416) ∧ Ls.length ≤ 9223372036854775807 ∧ Ls.length ≤ c ∧ c ≤ 9223372036854775807 := by
  obtain ⟨a0, len, cap, rfl⟩ := okWide_slice ht hv
  obtain ⟨fuel, hf0⟩ := h
  rcases Deep.open_slice ht hf0 with ⟨hcs, _⟩ | ⟨a, len', cap', m, n, D, Pl, hcs, hbb, hl, hm, hmm, hx, hi⟩
  · simp [Value.cells] at hcs
    obtain ⟨rfl, rfl, rfl⟩ := hcs
    exact ⟨none, 0, [], rfl, ⟨fun i L h => by simp at h⟩, fun L h => by simp at h, by simp, by simp, by simp⟩
  · simp [Value.cells] at hcs
    obtain ⟨rfl, rfl, rfl⟩ := hcs
    unfold maxLen at hm
    have hlm : len ≤ m := by split at hmm <;> omega
    obtain ⟨Ls, hLl, hLs⟩ := choose_listF (n := len) (p := fun i (L : List α) => (∃ Ai ci, w.cell? (a.add i) = some (.slice Ai L.length ci) ∧ Lists w w.heap.size Ai (L.flatMap f)) ∧ L.length ≤ 17592186044416) fun i hil => by
      obtain ⟨cs', hc, ht'⟩ := hi i (by omega)
      rw [hcu, Nat.mul_one] at hc
      obtain ⟨_, hcl, hat⟩ := World.cells?_some hc
      match cs', hcl with
      | [c0], _ =>
        obtain ⟨Ai, ci, L, rfl, hL, hw⟩ := open_rowsF hu hC hf hs hE ht'
        have a0 : w.cell? (a.add i) = some (.slice Ai L.length ci) := by have := hat 0 (by omega); rw [Go.Deep.add_add] at this; exact this
        refine ⟨L, ⟨Ai, ci, a0, hL⟩, ?_⟩
        have := hw reachBytes fun m hm => hz m (by
          simp only [Prod.mk.injEq] at hx
          rw [hx.1]
          simp only [DataW.weights, ht]
          exact List.mem_cons_of_mem _ (List.mem_append_left _ (weights_all hm (List.mem_map.2 ⟨i, List.mem_range.2 hil, rfl⟩))))
        rw [hb] at this
        have hr := reachBytes_lt
        have := Nat.le_trans (Nat.mul_le_mul_left L.length hby) this
        omega
    refine ⟨some a, cap, Ls, by rw [hLl], ⟨fun i L hL => ?_⟩, fun L hL => ?_, by omega, by omega, by omega⟩
    · obtain ⟨⟨Ai, ci, h1, h2⟩, _⟩ := hLs i L hL
      have hlt := cell_lt h1
      obtain ⟨b, o, s⟩ := a
      have hs : s = none := by
        obtain ⟨L0, hL0⟩ := at_someF (L := Ls) (k := 0) (by have := (List.getElem?_eq_some_iff.1 hL).1; omega)
        obtain ⟨⟨_, _, h4, _⟩, _⟩ := hLs 0 L0 hL0
        simpa [Addr.add] using World.cell?_spot h4
      subst hs
      rw [addr_plain] at h1 hlt
      exact ⟨b, o, Ai, ci, rfl, hlt, h1, h2⟩
    · obtain ⟨i, hi⟩ := List.mem_iff_getElem?.1 hL
      exact (hLs i L hi).2
end
end Go.Proofs.Ytlacjifnniahhaa

namespace Go.Proofs.Ytlacjifnniahhaa
open Go Go.RowKit Go.Shelf
attribute [local go_sem] Oper.semAt_some
set_option linter.unusedVariables false
set_option linter.unusedSimpArgs false

set_option maxRecDepth 100000 in
set_option maxHeartbeats 2000000 in
theorem fbox_bad (A : Option Addr) (c : Nat) (Ls : List (List Dt)) (w : World) (h : OutF dtL w w.heap.size A Ls) (hs : SmF Ls) (hb : mayF Ls ≠ 0) : Calls Try.prog 21 #[.slice A Ls.length c] w fun e w' => e = .returned (.tuple #[.agg #[.int .i64 0, .int .i64 0, .int .i64 0, .int .i64 0], .int .i64 (mayF Ls)]) ∧ Below w.heap.size w w' := by
  have B0 := below_a1 w (.cells #[.int .i64 0, .int .i64 0, .int .i64 0, .int .i64 0] 48)
  have KR := Blk.new w 48 #[.int .i64 0, .int .i64 0, .int .i64 0, .int .i64 0]
  have CM := fmay_any A c Ls (w.alloc (.cells #[.int .i64 0, .int .i64 0, .int .i64 0, .int .i64 0] 48)) ((h.below B0).more B0.size) hs
  obtain ⟨e0, he0⟩ : ∃ e0, e0 = mayF Ls := ⟨_, rfl⟩
  rw [← he0] at CM hb ⊢
  have d1 : (e0 != 0) = true := by simpa using hb
  obtain ⟨wA, hwA⟩ : ∃ wA, wA = w.alloc (.cells #[.int .i64 0, .int .i64 0, .int .i64 0, .int .i64 0] 48) := ⟨_, rfl⟩
  rw [← hwA] at B0 KR CM
  have HA := Lib.hid hwA
  clear he0 h hs hwA
  refine (callsIn_wide (n := 3)).1 ?_
  refine callsIn_of_wp_marks Try.func21 rfl trivial ?_
  simp only [Try.ntmps21, List.size_toArray, List.length_cons, List.length_nil, Nat.reduceAdd, Nat.reduceSub, Array.replicate_succ, Array.replicate_zero, List.push_toArray, List.append_toArray, List.nil_append, List.cons_append]
  refine wpIn_wide.2 ?_
  go_upto_region 1 with fail
  rw [← HA.out]
  go_wp2_with (first
    | (go_at_call 19; (with_reducible refine (CM).mono ?_); rintro e w1 ⟨rfl, b1⟩; have K1 := KR.below b1; have B1 := B0.trans (b1.mono B0.size))
    | (refine wpList_store_row rfl 48 (.tmp 2) (.tmp 15) (by with_reducible rfl) w.heap.size #[.int .i64 0, .int .i64 0, .int .i64 0, .int .i64 0] (by rfl) (by rfl) 48 #[.int .i64 0, .int .i64 0, .int .i64 0, .int .i64 0] (by exact K1) flQInfo rfl (by simp [Value.oneCell']) ?_))
  refine retM0 rfl (v := .tuple #[.agg #[.int .i64 0, .int .i64 0, .int .i64 0, .int .i64 0], .int .i64 e0]) (results_row_tmp Try.results21 _ _ w.heap.size 48 #[.int .i64 0, .int .i64 0, .int .i64 0, .int .i64 0] (0, 0) _ (.int .i64 e0) (by rfl) (by rfl) (show Blk _ _ _ _ from blk_row K1 _) Try.underlying48 rfl flQInfo) ⟨rfl, below_setRow B1 (Nat.le_refl _) _⟩
open Go.ChangeShapes Go.WideShapes Go.ChangeAt
theorem cellsIZF : Try.prog.cellsOf 3 = 1 := by kernel_rfl
section
variable {H : Type} {enc : TypeId × Value → H}
set_option maxRecDepth 100000 in
theorem open_dtF {w : World} {base fuel : Nat} {spare : Nat → Bool} {held : Bool} {cs : List Value} {x : DataW H × List MemPlace} (hl : cs.length = 2)
    (h : DataW.trod enc Try.prog w base spare held fuel 27 cs = some x) : ∃ d : Dt, cs = dtL d := by
  match cs, hl with
  | [c0, c1], _ =>
    obtain ⟨zs, m, _, _, _, hlen2, hb⟩ := DataW.trod_struct Try.underlying27 h
    match zs, hlen2 with
    | [z0, z1], _ =>
      have k0 := hb 0 _ rfl
      have k1 := hb 1 _ rfl
      simp [cellsIZF] at k0 k1
      obtain ⟨a1, e1, _⟩ := DataW.trod_int Try.underlying3 k0
      obtain ⟨a2, e2, _⟩ := DataW.trod_int Try.underlying3 k1
      simp at e1 e2
      subst e1 e2
      exact ⟨(a1, a2), rfl⟩
end
end Go.Proofs.Ytlacjifnniahhaa

namespace Go.Proofs.Ytlacjifnniahhaa
open Go Go.RowKit Go.Shelf
attribute [local go_sem] Oper.semAt_some
set_option linter.unusedVariables false
set_option linter.unusedSimpArgs false

theorem mvE_bad {dx dy : Int} {Ls : List (List Dt)} {x : Dt} (hb : mayF Ls = 0) (hx : x ∈ Ls.flatten) (hf : ltF (mvD dx dy x) = false) : mvE dx dy Ls = 10 := by
  have hok := mayF_ok hb
  unfold mvE
  rw [if_pos hb]
  unfold mayF
  have h2 : (mvL dx dy Ls).flatten.all ltF = false := by
    rw [List.all_eq_false]
    refine ⟨mvD dx dy x, ?_, by rw [hf]; decide⟩
    obtain ⟨L, hL, hm⟩ := List.mem_flatten.1 hx
    exact List.mem_flatten.2 ⟨L.map (mvD dx dy), List.mem_map.2 ⟨L, hL, rfl⟩, List.mem_map.2 ⟨x, hm, rfl⟩⟩
  rw [if_neg (by rw [mvL_cnt]; omega), h2]
  rfl
theorem mvE_ok {dx dy : Int} {Ls : List (List Dt)} (hb : mayF Ls = 0) (h2 : (mvL dx dy Ls).flatten.all ltF = true) : mvE dx dy Ls = 0 := by
  have hok := mayF_ok hb
  unfold mvE
  rw [if_pos hb]
  unfold mayF
  rw [if_neg (by rw [mvL_cnt]; omega), if_pos h2]
theorem mv_out {dx dy : Int} {x : Dt} (hx : ltF x = true) (wx : -9223372036854775808 ≤ dx ∧ dx ≤ 9223372036854775807) (wy : -9223372036854775808 ≤ dy ∧ dy ≤ 9223372036854775807) (h : dx < -2097152 ∨ 2097152 < dx ∨ dy < -2097152 ∨ 2097152 < dy) : ltF (mvD dx dy x) = false := by
  have h1 := ltF_in hx
  rw [ltF_fits]
  unfold mvD fitZ wrap64
  rw [Bool.eq_false_iff]
  intro h2
  simp at h2
  omega
set_option maxRecDepth 100000 in
set_option maxHeartbeats 4000000 in
theorem rmove21 (A : Option Addr) (c : Nat) (Ls : List (List Dt)) (dx dy : Int) (w : World) (h : OutF dtL w w.heap.size A Ls) (hs : SmF Ls) (hb : mayF Ls = 0) (wx : -9223372036854775808 ≤ dx ∧ dx ≤ 9223372036854775807) (wy : -9223372036854775808 ≤ dy ∧ dy ≤ 9223372036854775807) :
    Calls Try.prog 27 #[.slice A Ls.length c, .int .i64 dx, .int .i64 dy] w (MovP w dx dy Ls) := by
  have hok := mayF_ok hb
  obtain ⟨i1, hi1, hz1, hs1, hy1⟩ := info_partsB dtInfoB
  obtain ⟨i2, hi2, hz2, hs2, hy2⟩ := info_partsB rtInfoB
  have HI1 := Lib.hid (And.intro hi1 (And.intro hz1 (And.intro hs1 hy1)))
  have HI2 := Lib.hid (And.intro hi2 (And.intro hz2 (And.intro hs2 hy2)))
  have HBAD := Lib.hid (fun (x : Dt) (hx : x ∈ Ls.flatten) (hf : ltF (mvD dx dy x) = false) => mvE_bad (dx := dx) (dy := dy) hb hx hf)
  have HGOOD := Lib.hid (fun (h2 : (mvL dx dy Ls).flatten.all ltF = true) => mvE_ok (dx := dx) (dy := dy) hb h2)
  have HALL := Lib.hid hok.2
  have hMP : ∀ e w', (∃ v, e = .returned (.tuple #[v, .int .i64 (mvE dx dy Ls)]) ∧ (mvE dx dy Ls = 0 → Own2F dtL 27 61 2 w' w.heap.size v (mvL dx dy Ls)) ∧ (mvE dx dy Ls ≠ 0 → v = .slice none 0 0) ∧ Below w.heap.size w w') → MovP w dx dy Ls e w' := fun e w' h => h
  generalize MovP w dx dy Ls = MP at *
  have HMP := Lib.hid hMP
  clear hMP
  have HWF := Lib.hid (And.intro wx wy)
  have hn := hs.1
  have HM := Lib.hid (fun (L : List Dt) (hL : L ∈ Ls) => hs.len hL)
  have HL := Lib.hid h
  obtain ⟨n, hnn⟩ : ∃ n, n = Ls.length := ⟨_, rfl⟩
  rw [← hnn] at hn ⊢
  have HN := Lib.hid hnn
  clear h hnn hs hi1 hz1 hs1 hy1 hi2 hz2 hs2 hy2 hok hb wx wy
  have HDEC : Hid ((∃ _ : dx < -2097152 ∨ 2097152 < dx ∨ dy < -2097152 ∨ 2097152 < dy, (decide (dx < -2097152) = true ∨ (decide (dx < -2097152) = false ∧ decide (2097152 < dx) = true) ∨ (decide (dx < -2097152) = false ∧ decide (2097152 < dx) = false ∧ decide (dy < -2097152) = true) ∨ (decide (dx < -2097152) = false ∧ decide (2097152 < dx) = false ∧ decide (dy < -2097152) = false ∧ decide (2097152 < dy) = true))) ∨ (decide (dx < -2097152) = false ∧ decide (2097152 < dx) = false ∧ decide (dy < -2097152) = false ∧ decide (2097152 < dy) = false)) := Lib.hid (by
    simp only [decide_eq_true_eq, decide_eq_false_iff_not, exists_prop]
    omega)
  go_enter Try.func27, Try.ntmps27
  go_wp2
  go_loopw [8, 9] (fun v i wr => ∃ k : Nat, k ≤ n ∧ i = .int .i64 k ∧ Own2F dtL 27 61 2 wr w.heap.size v (mvL dx dy (Ls.take k)) ∧ (mvL dx dy (Ls.take k)).flatten.all ltF = true ∧ Below w.heap.size w wr) (fun _ i _ => n - (intOf i).toNat)
  case atStart => exact ⟨0, Nat.zero_le _, rfl, Own2F.nil _ _, rfl, Below.refl _ _⟩
  case round =>
    obtain ⟨k, hk, rfl, hO, hall, hb⟩ := hrel
    by_cases hlt : k < n
    · have d1 : decide ((k : Int) < (n : Int)) = true := by simp; omega
      obtain ⟨L, hL⟩ := at_someF (L := Ls) (k := k) (by rw [← HN.out]; exact hlt)
      obtain ⟨b, o, Ai, ci, rfl, hbl, c0, hE⟩ := HL.out.at' k L hL
      have g0 := (hb.cell (p := ⟨b, o + k, none⟩) hbl).trans c0
      have hbs := hb.size
      have g3 : b < wr.heap.size := by omega
      have HT := Lib.hid (show mvL dx dy (Ls.take (k + 1)) = mvL dx dy (Ls.take k) ++ [L.map (mvD dx dy)] by unfold mvL; rw [take_snocF hL, List.map_append]; rfl)
      have HFL := Lib.hid (fun (x : Dt) (hx : x ∈ L) => List.mem_flatten.2 ⟨L, List.mem_of_getElem? hL, hx⟩)
      have hl : L.length ≤ 100000 := HM.out L (List.mem_of_getElem? hL)
      obtain ⟨rows, ho, hi⟩ := hO
      have hkl : (mvL dx dy (Ls.take k)).length = k := by unfold mvL; rw [List.length_map, List.length_take]; have := HN.out; omega
      have HK := Lib.hid hkl
      rw [hkl] at ho
      have HO := Lib.hid (And.intro ho hi)
      have HE0 := Lib.hid (And.intro hE c0)
      have HAA := Lib.hid hall
      obtain ⟨m, hm⟩ : ∃ m, m = L.length := ⟨_, rfl⟩
      rw [← hm] at g0 hl
      have HMm := Lib.hid hm
      have HB := Lib.hid hb
      obtain ⟨wo, hwo⟩ : ∃ wo, wo = wr := ⟨_, rfl⟩
      rw [← hwo] at HO HB hbs g0 g3 ⊢
      clear c0 hE hL ho hi hkl hb hm hwo hall
      go_wp2
      go_loopw [10, 11] (fun v i wr => ∃ j : Nat, j ≤ m ∧ i = .int .i64 j ∧ wr.ownsRow wo.heap.size 27 2 v j (((L.take j).map (mvD dx dy)).flatMap dtL) ∧ ((L.take j).map (mvD dx dy)).all ltF = true ∧ Below wo.heap.size wo wr) (fun _ i _ => m - (intOf i).toNat)
      case atStart => exact ⟨0, Nat.zero_le _, rfl, World.ownsRow_nil _ _ _ _, rfl, Below.refl _ _⟩
      case round =>
        clear g0 g3
        obtain ⟨j, hj, rfl, ho, hal, hb⟩ := hrel
        have HBB := Lib.hid (HB.out.trans (hb.mono hbs))
        have g0 := (HBB.out.cell (p := ⟨b, o + k, none⟩) hbl).trans HE0.out.2
        rw [← HMm.out] at g0
        have hbz := hb.size
        have g3 : b < wr.heap.size := by omega
        by_cases hjm : j < m
        · have d2 : decide ((j : Int) < (m : Int)) = true := by simp; omega
          obtain ⟨x, hx⟩ := at_someF (L := L) (k := j) (by rw [← HMm.out]; exact hjm)
          obtain ⟨fb, fo, hA, hfb, hfc⟩ := lists_flat dtLen (by omega) HE0.out.1 hx
          subst hA
          have hf0 := hfc 0 _ rfl
          have hf1 := hfc 1 _ rfl
          rw [Nat.add_zero] at hf0
          have q0 := (HBB.out.cell (p := ⟨fb, fo + j * 2, none⟩) hfb).trans hf0
          have q1 := (HBB.out.cell (p := ⟨fb, fo + j * 2 + 1, none⟩) hfb).trans hf1
          have fl : fb < wr.heap.size := by omega
          have hmem := HFL.out x (List.mem_of_getElem? hx)
          have hlx : ltF x = true := by have := HALL.out; rw [List.all_eq_true] at this; exact this x hmem
          have HBADX := Lib.hid (HBAD.out x hmem)
          have HOUTX := Lib.hid (fun h => mv_out (dx := dx) (dy := dy) hlx HWF.out.1 HWF.out.2 h)
          have HT2 := Lib.hid (show (L.take (j + 1)).map (mvD dx dy) = (L.take j).map (mvD dx dy) ++ [mvD dx dy x] by rw [take_snocF hx, List.map_append]; rfl)
          have HOW := Lib.hid (And.intro ho hal)
          have HBL := Lib.hid hb
          have HFIN := Lib.hid (fun (V : World) (hV : Below wr.heap.size wr V) => HB.out.trans ((hb.trans (hV.mono hbz)).mono hbs))
          have HD : Hid (∀ V : World, Below w.heap.size w V → V.cell? ⟨b, o + k, none⟩ = some (.slice (some ⟨fb, fo, none⟩) m ci) ∧ V.cell? ⟨fb, fo + j * 2, none⟩ = some (.int .i64 x.1) ∧ V.cell? ⟨fb, fo + j * 2 + 1, none⟩ = some (.int .i64 x.2) ∧ b < V.heap.size ∧ fb < V.heap.size) := Lib.hid fun V hV => ⟨by have := (hV.cell (p := ⟨b, o + k, none⟩) hbl).trans HE0.out.2; rwa [← HMm.out] at this, (hV.cell (p := ⟨fb, fo + j * 2, none⟩) hfb).trans hf0, (hV.cell (p := ⟨fb, fo + j * 2 + 1, none⟩) hfb).trans hf1, Nat.lt_of_lt_of_le hbl hV.size, Nat.lt_of_lt_of_le hfb hV.size⟩
          have HE := Lib.hid (And.intro hjm hlt)
          clear hf0 hf1 hfc hx ho hb hal hmem hlx
          rcases HDEC.out with ⟨hout, hdec⟩ | hdec
          · have HR := Lib.hid (HBADX.out (HOUTX.out hout))
            clear hout
            rcases hdec with h1 | ⟨h1, h2⟩ | ⟨h1, h2, h3⟩ | ⟨h1, h2, h3, h4⟩
            all_goals
              go_wp2
              exact HMP.out _ _ ⟨_, by rw [HR.out]; rfl, fun h => absurd (HR.out.symm.trans h) (by decide), fun _ => rfl, HFIN.out _ (Below.refl _ _)⟩
          · obtain ⟨h1, h2, h3, h4⟩ := hdec
            obtain ⟨y, hy⟩ : ∃ y, y = mvD dx dy x := ⟨_, rfl⟩
            rw [← hy] at HT2 HBADX
            have e1 : IntKind.i64.wrap (x.1 + dx) = y.1 := by rw [hy, IntWalk.i64_left]; rfl
            have e2 : IntKind.i64.wrap (x.2 + dy) = y.2 := by rw [hy, IntWalk.i64_left]; rfl
            have e3 : wrap64 (x.1 + dx) = y.1 := by rw [hy]; rfl
            have e4 : wrap64 (x.2 + dy) = y.2 := by rw [hy]; rfl
            have C1 := fun W => rfits_any y.1 W
            have C2 := fun W => rfits_any y.2 W
            have hlf := ltF_fits y
            clear hy
            cases hf1 : fitZ y.1 <;> cases hf2 : fitZ y.2
            case true.true =>
              rw [hf1] at C1 hlf
              rw [hf2] at C2 hlf
              have HLF := Lib.hid hlf
              clear hlf hf1 hf2
              go_upto_region 11 with (go_at_call 34; (with_reducible first | (refine (C1 _).mono ?_; rintro e w3 ⟨rfl, rfl⟩) | (refine (C2 _).mono ?_; rintro e w3 ⟨rfl, rfl⟩)))
              have hI : Below w.heap.size w w3.drew := HBB.out.drew
              refine wp_region_chain (fun V => Below w.heap.size w V) [(0, false), (1, false), (2, false), (3, false), (4, false), (5, false), (6, false), (7, false), (8, false), (9, false), (10, false), (11, false), (12, false), (13, false), (14, false), (15, false), (16, false), (17, false), (18, false), (19, false), (20, false), (21, false), (22, true), (23, true), (24, false)] (by kernel_rfl) (by kernel_rfl) hI ?_
              have bd : Below w3.heap.size w3 w3.drew := (Below.refl _ _).drew
              obtain ⟨wd, hwd⟩ : ∃ wd, wd = w3.drew := ⟨_, rfl⟩
              rw [← hwd] at hI bd ⊢
              have hbd := bd.size
              clear hwd
              repeat (first
                | (refine ChainL.skip (o := ?_) ?_ ?_ ?_; rotate_left; (focus (first | (simp only [List.getElem?_toArray, List.getElem?_cons_succ, List.getElem?_cons_zero]; with_reducible rfl) | (simp only [List.getElem?_toArray, List.getElem?_cons_zero]; with_reducible rfl))); (focus rfl); simp only [Act.put, List.setIfInBounds_toArray, List.set_cons_zero, List.set_cons_succ])
                | (refine ChainL.val (o := ?_) (v := ?_) ?_ ?_ ?_ ?_ ?_; rotate_left 2; (focus (first | (simp only [List.getElem?_toArray, List.getElem?_cons_succ, List.getElem?_cons_zero]; with_reducible rfl) | (simp only [List.getElem?_toArray, List.getElem?_cons_zero]; with_reducible rfl))); (focus (intro _ _ h; cases h)); (focus rfl); (focus (intro w' hI; obtain ⟨g0, q0, q1, gl, fl⟩ := HD.out _ hI; obtain ⟨hjm, hkn⟩ := HE.out; go_simp <;> with_reducible rfl)); simp only [Act.put, List.setIfInBounds_toArray, List.set_cons_zero, List.set_cons_succ]))
              refine ChainL.does (o := ?_) (v := ?_) (w1 := ?_) ?_ ?_ ?_ ?_ ?_
              rotate_left 3
              (focus (first | (simp only [List.getElem?_toArray, List.getElem?_cons_succ, List.getElem?_cons_zero]; with_reducible rfl) | (simp only [List.getElem?_toArray, List.getElem?_cons_zero]; with_reducible rfl)))
              (focus rfl)
              (focus (go_simp; (constructor <;> with_reducible rfl)))
              (focus (exact hI.alloc hI.size _))
              simp only [Act.put, List.setIfInBounds_toArray, List.set_cons_zero, List.set_cons_succ]
              refine ChainL.append (o := ?_) ?_ ?_ (.tmp 69) (.tmp 91) 61 ?_ wo.heap.size 27 i1 (.agg #[.int .i64 0, .int .i64 0]) 2 16 Try.underlying61 HI1.out.1 HI1.out.2.1 HI1.out.2.2.1 HI1.out.2.2.2 rfl (by decide) _ j _ ?_ (own_stayF (own_stayF HOW.out.1 bd) (below_a1 _ _)) _ _ 1 1 [.int .i64 y.1, .int .i64 y.2] ?_ (lists_row wd [.int .i64 y.1, .int .i64 y.2] _) rfl (fun u hu => by simp at hu; rcases hu with rfl | rfl <;> rfl) (by simp only [maxLen]; omega) (by omega) (by simp; omega) ?_
              rotate_left 1
              (focus (first | (simp only [List.getElem?_toArray, List.getElem?_cons_succ, List.getElem?_cons_zero]; with_reducible rfl) | (simp only [List.getElem?_toArray, List.getElem?_cons_zero]; with_reducible rfl)))
              (focus rfl)
              (focus rfl)
              (focus rfl)
              (focus rfl)
              intro v6 w6 own6 hg6 hat6
              have b6 : Below wo.heap.size wo w6 := ((HBL.out.trans (bd.mono hbz)).alloc (by omega) _).grown hg6 (by simp; omega) (fun jj hjj => (HOW.out.1.lt jj hjj).1)
              refine ⟨HB.out.trans (b6.mono hbs), ?_⟩
              simp only [Act.put, List.setIfInBounds_toArray, List.set_cons_zero, List.set_cons_succ]
              repeat (first
                | (refine ChainL.skip (o := ?_) ?_ ?_ ?_; rotate_left; (focus (first | (simp only [List.getElem?_toArray, List.getElem?_cons_succ, List.getElem?_cons_zero]; with_reducible rfl) | (simp only [List.getElem?_toArray, List.getElem?_cons_zero]; with_reducible rfl))); (focus rfl); simp only [Act.put, List.setIfInBounds_toArray, List.set_cons_zero, List.set_cons_succ])
                | (refine ChainL.val (o := ?_) (v := ?_) ?_ ?_ ?_ ?_ ?_; rotate_left 2; (focus (first | (simp only [List.getElem?_toArray, List.getElem?_cons_succ, List.getElem?_cons_zero]; with_reducible rfl) | (simp only [List.getElem?_toArray, List.getElem?_cons_zero]; with_reducible rfl))); (focus (intro _ _ h; cases h)); (focus rfl); (focus (intro w' hI; skip; go_simp <;> with_reducible rfl)); simp only [Act.put, List.setIfInBounds_toArray, List.set_cons_zero, List.set_cons_succ]))
              refine ChainL.nil ?_
              go_wp2
              go_roundw
              case rel => exact ⟨j + 1, by omega, by go_num, by rw [HT2.out, List.flatMap_append]; exact own6, by rw [HT2.out, List.all_append, HOW.out.2]; simp [HLF.out], b6⟩
              case measure => simp [intOf]; omega
            all_goals
              rw [hf1] at C1 hlf
              rw [hf2] at C2 hlf
              have HR := Lib.hid (HBADX.out (by simpa using hlf))
              clear hlf hf1 hf2
              go_wp2_with (go_at_call 34; (with_reducible first | (refine (C1 _).mono ?_; rintro e w3 ⟨rfl, rfl⟩) | (refine (C2 _).mono ?_; rintro e w3 ⟨rfl, rfl⟩)))
              exact HMP.out _ _ ⟨_, by rw [HR.out]; rfl, fun h => absurd (HR.out.symm.trans h) (by decide), fun _ => rfl, HFIN.out _ (Below.refl _ _)⟩
        · obtain rfl : j = m := by omega
          have d2 : decide ((j : Int) < (j : Int)) = false := by simp
          have hTL : L.take j = L := List.take_of_length_le (by rw [← HMm.out]; exact Nat.le_refl _)
          rw [hTL] at ho hal
          obtain ⟨A1, c1, rfl, _, _⟩ := own_lists ho
          have HOW := Lib.hid (And.intro ho hal)
          have HBL := Lib.hid hb
          clear ho hb hTL hal
          go_wp2_with (at_builtin; refine wpList_append_src _ rfl (.tmp 93) (.tmp 95) 39 rfl w.heap.size 61 i2 (.slice none 0 0) 1 24 Try.underlying39 HI2.out.1 HI2.out.2.1 HI2.out.2.2.1 HI2.out.2.2.2 rfl (by decide) _ k rows rfl (own_stayF (own_stayF HO.out.1 HBL.out) (below_a1 _ _)) _ _ 1 1 [.slice A1 j c1] rfl (lists_newB wr _ _) rfl (fun u hu => by simp at hu; subst hu; rfl) (by simp only [maxLen]; omega) (by omega) (by have := HBL.out.size; simp; omega) ?_; intro v7 w7 own7 hg7 hat7)
          go_roundw
          case rel =>
            have e1 : (L.map (mvD dx dy)).length = j := by rw [List.length_map, HMm.out]
            refine ⟨k + 1, by omega, by go_num, ?_, ?_, ((HB.out.trans (HBL.out.mono hbs)).alloc (by have := HBL.out.size; omega) _).grown hg7 (by have := HBL.out.size; simp; omega) (fun jj hjj => (HO.out.1.lt jj hjj).1)⟩
            · rw [HT.out]
              exact own2F_push (by decide) hbs (by rw [HK.out]; exact HO.out.1) HO.out.2 HBL.out (by rw [e1]; exact HOW.out.1) (below_a1 _ _) (by rw [HK.out]; exact own7) hg7
            · rw [HT.out, List.flatten_append, List.all_append, HAA.out]
              simpa using HOW.out.2
          case measure => simp [intOf]; omega
    · obtain rfl : k = n := by omega
      have d1 : decide ((k : Int) < (k : Int)) = false := by simp
      have hTK : Ls.take k = Ls := List.take_of_length_le (by rw [← HN.out]; exact Nat.le_refl _)
      rw [hTK] at hO hall
      have HR := Lib.hid (HGOOD.out hall)
      have HOO := Lib.hid (And.intro hO hb)
      clear hTK hO hall hb
      go_wp2
      exact HMP.out _ _ ⟨_, by rw [HR.out]; rfl, fun _ => HOO.out.1, fun h => absurd HR.out h, HOO.out.2⟩
end Go.Proofs.Ytlacjifnniahhaa

namespace Go.Proofs.Ytlacjifnniahhaa
open Go Go.RowKit Go.Shelf
attribute [local go_sem] Oper.semAt_some
set_option linter.unusedVariables false
set_option linter.unusedSimpArgs false

theorem neF3_run (a b : Int) (w : World) : (binOp .neq 27 (.agg #[.int .i64 a, .int .i64 b]) (.agg #[.int .i64 a, .int .i64 b])).run Try.prog w = .ok (.bool false) w := by
  have hS : Try.prog.underlying 27 = some (.struct (Try.prog.fieldsOf 27)) := by kernel_rfl
  have hp : Try.prog.stoodInHeld 27 = false := by kernel_rfl
  have u3 := Try.underlying3
  have a3 := Try.isAgg3
  have z3 := Try.sizeOf3
  rw [run_neq_struct, show (10000 : Nat) = 9999 + 1 from rfl, run_equalIn_agg w 9999 27 _ _ hS hp]
  simp only [Program.fieldsOf, Try.underlying27]
  go_simp
theorem neF3_guard (a b : Int) (x y : Operand) (w : World) : (eqGuard .neq 27 x y (.agg #[.int .i64 a, .int .i64 b]) (.agg #[.int .i64 a, .int .i64 b])).run Try.prog w = .ok () w :=
  run_eqGuard_agg w .neq 27 x y _ _ (by kernel_rfl)
set_option maxRecDepth 100000 in
set_option maxHeartbeats 4000000 in
theorem rsame21 (A A2 : Option Addr) (c c2 : Nat) (Ls : List (List Dt)) (w : World) (h : OutF dtL w w.heap.size A Ls) (h2 : OutF dtL w w.heap.size A2 Ls) (hs : SmF Ls) :
    Calls Try.prog 18 #[.slice A Ls.length c, .slice A2 Ls.length c2] w fun e w' => e = .returned (.bool true) ∧ Below w.heap.size w w' := by
  have hn0 := hs.1
  have HM := Lib.hid (fun (L : List Dt) (hL : L ∈ Ls) => hs.len hL)
  have HL := Lib.hid (And.intro h h2)
  obtain ⟨n, hnn⟩ : ∃ n, n = Ls.length := ⟨_, rfl⟩
  rw [← hnn] at hn0 ⊢
  have HN := Lib.hid hnn
  clear h hnn hs h2
  go_enter Try.func18, Try.ntmps18
  go_wp2
  go_loopw [5] (fun i wr => ∃ k : Nat, k ≤ n ∧ i = .int .i64 k ∧ Below w.heap.size w wr) (fun i _ => n - (intOf i).toNat)
  case atStart => exact ⟨0, Nat.zero_le _, rfl, Below.refl _ _⟩
  case round =>
    obtain ⟨k, hk, rfl, hb⟩ := hrel
    by_cases hlt : k < n
    · have d1 : decide ((k : Int) < (n : Int)) = true := by simp; omega
      obtain ⟨L, hL⟩ := at_someF (L := Ls) (k := k) (by rw [← HN.out]; exact hlt)
      obtain ⟨b, o, Ai, ci, hA1, hbl, c0, hE⟩ := HL.out.1.at' k L hL
      obtain ⟨b2, o2, Bi, bi, hA2, hbl2, c1, hE2⟩ := HL.out.2.at' k L hL
      subst hA1
      subst hA2
      have hl : L.length ≤ 100000 := HM.out L (List.mem_of_getElem? hL)
      obtain ⟨m0, hm⟩ : ∃ m0, m0 = L.length := ⟨_, rfl⟩
      rw [← hm] at c0 c1 hl
      have HM0 := Lib.hid hm
      have HEE := Lib.hid (And.intro hE hE2)
      have HD : Hid (∀ V : World, Below w.heap.size w V → V.cell? ⟨b, o + k, none⟩ = some (.slice Ai m0 ci) ∧ V.cell? ⟨b2, o2 + k, none⟩ = some (.slice Bi m0 bi) ∧ b < V.heap.size ∧ b2 < V.heap.size) := Lib.hid fun V hV => ⟨(hV.cell (p := ⟨b, o + k, none⟩) hbl).trans c0, (hV.cell (p := ⟨b2, o2 + k, none⟩) hbl2).trans c1, Nat.lt_of_lt_of_le hbl hV.size, Nat.lt_of_lt_of_le hbl2 hV.size⟩
      have HE := Lib.hid hlt
      clear c0 c1 hE hE2 hL hm
      go_upto_region 6 with fail
      have hI : Below w.heap.size w wr.drew := hb.drew
      refine wp_region_chain (fun V => Below w.heap.size w V) [(0, false), (1, false), (2, false), (3, false), (4, false), (5, false), (6, false), (7, false), (8, false), (9, false), (10, false)] (by kernel_rfl) (by kernel_rfl) hI ?_
      repeat (first
        | (refine ChainL.skip (o := ?_) ?_ ?_ ?_; rotate_left; (focus (first | (simp only [List.getElem?_toArray, List.getElem?_cons_succ, List.getElem?_cons_zero]; with_reducible rfl) | (simp only [List.getElem?_toArray, List.getElem?_cons_zero]; with_reducible rfl))); (focus rfl); simp only [Act.put, List.setIfInBounds_toArray, List.set_cons_zero, List.set_cons_succ])
        | (refine ChainL.val (o := ?_) (v := ?_) ?_ ?_ ?_ ?_ ?_; rotate_left 2; (focus (first | (simp only [List.getElem?_toArray, List.getElem?_cons_succ, List.getElem?_cons_zero]; with_reducible rfl) | (simp only [List.getElem?_toArray, List.getElem?_cons_zero]; with_reducible rfl))); (focus (intro _ _ h; cases h)); (focus rfl); (focus (intro w' hI; obtain ⟨g0, g1, gl, hl2⟩ := HD.out _ hI; have hkn := HE.out; go_simp <;> with_reducible rfl)); simp only [Act.put, List.setIfInBounds_toArray, List.set_cons_zero, List.set_cons_succ]))
      refine ChainL.nil ?_
      obtain ⟨wd, hwd⟩ : ∃ wd, wd = wr.drew := ⟨_, rfl⟩
      rw [← hwd] at hI ⊢
      clear hwd hb
      go_wp2
      go_loopw [6] (fun i wq => ∃ j : Nat, j ≤ m0 ∧ i = .int .i64 j ∧ Below w.heap.size w wq) (fun i _ => m0 - (intOf i).toNat)
      case atStart => exact ⟨0, Nat.zero_le _, rfl, hI⟩
      case round =>
        clear hI
        obtain ⟨j, hj, rfl, hb⟩ := hrel
        by_cases hjm : j < m0
        · have d2 : decide ((j : Int) < (m0 : Int)) = true := by simp; omega
          obtain ⟨x, hx⟩ := at_someF (L := L) (k := j) (by rw [← HM0.out]; exact hjm)
          obtain ⟨fb, fo, hA, hfb, hfc⟩ := lists_flat dtLen (by omega) HEE.out.1 hx
          obtain ⟨eb, eo, hA3, heb, hec⟩ := lists_flat dtLen (by omega) HEE.out.2 hx
          subst hA
          subst hA3
          have HD2 : Hid (∀ V : World, Below w.heap.size w V → V.cell? ⟨fb, fo + j * 2, none⟩ = some (.int .i64 x.1) ∧ V.cell? ⟨fb, fo + j * 2 + 1, none⟩ = some (.int .i64 x.2) ∧ V.cell? ⟨eb, eo + j * 2, none⟩ = some (.int .i64 x.1) ∧ V.cell? ⟨eb, eo + j * 2 + 1, none⟩ = some (.int .i64 x.2) ∧ fb < V.heap.size ∧ eb < V.heap.size) := Lib.hid fun V hV => ⟨(hV.cell (p := ⟨fb, fo + j * 2, none⟩) hfb).trans (hfc 0 _ rfl), (hV.cell (p := ⟨fb, fo + j * 2 + 1, none⟩) hfb).trans (hfc 1 _ rfl), (hV.cell (p := ⟨eb, eo + j * 2, none⟩) heb).trans (hec 0 _ rfl), (hV.cell (p := ⟨eb, eo + j * 2 + 1, none⟩) heb).trans (hec 1 _ rfl), Nat.lt_of_lt_of_le hfb hV.size, Nat.lt_of_lt_of_le heb hV.size⟩
          have HE2 := Lib.hid hjm
          have p1 := neF3_run x.1 x.2
          have p2 := neF3_guard x.1 x.2
          clear hfc hec hx
          obtain ⟨g0, g1, gl, hl2⟩ := HD.out _ hb
          go_upto_region 11 with fail
          clear g0 g1 gl hl2
          have hI : Below w.heap.size w wr.drew := hb.drew
          refine wp_region_chain (fun V => Below w.heap.size w V) [(0, false), (1, false), (2, false), (3, false), (4, false), (5, false), (6, false), (7, false), (8, false), (9, false), (10, false), (11, false), (12, false), (13, false), (14, false)] (by kernel_rfl) (by kernel_rfl) hI ?_
          repeat (first
            | (refine ChainL.skip (o := ?_) ?_ ?_ ?_; rotate_left; (focus (first | (simp only [List.getElem?_toArray, List.getElem?_cons_succ, List.getElem?_cons_zero]; with_reducible rfl) | (simp only [List.getElem?_toArray, List.getElem?_cons_zero]; with_reducible rfl))); (focus rfl); simp only [Act.put, List.setIfInBounds_toArray, List.set_cons_zero, List.set_cons_succ])
            | (refine ChainL.val (o := ?_) (v := ?_) ?_ ?_ ?_ ?_ ?_; rotate_left 2; (focus (first | (simp only [List.getElem?_toArray, List.getElem?_cons_succ, List.getElem?_cons_zero]; with_reducible rfl) | (simp only [List.getElem?_toArray, List.getElem?_cons_zero]; with_reducible rfl))); (focus (intro _ _ h; cases h)); (focus rfl); (focus (intro w' hI; obtain ⟨g0, g1, gl, hl2⟩ := HD.out _ hI; obtain ⟨q0, q1, r0, r1, fl, el⟩ := HD2.out _ hI; have hkn := HE.out; have hjm := HE2.out; go_simp <;> with_reducible rfl)); simp only [Act.put, List.setIfInBounds_toArray, List.set_cons_zero, List.set_cons_succ]))
          refine ChainL.nil ?_
          obtain ⟨wd, hwd⟩ : ∃ wd, wd = wr.drew := ⟨_, rfl⟩
          rw [← hwd] at hI ⊢
          clear hwd hb
          go_wp2
          go_roundw
          case rel => exact ⟨j + 1, by omega, by go_num, hI⟩
          case measure => simp [intOf]; omega
        · obtain rfl : j = m0 := by omega
          have d2 : decide ((j : Int) < (j : Int)) = false := by simp
          obtain ⟨g0, g1, gl, hl2⟩ := HD.out _ hb
          go_wp2
          go_roundw
          case rel => exact ⟨k + 1, by omega, by go_num, hb⟩
          case measure => simp [intOf]; omega
    · obtain rfl : k = n := by omega
      have d1 : decide ((k : Int) < (k : Int)) = false := by simp
      go_wp2
      go_ret
      exact ⟨rfl, hb⟩
end Go.Proofs.Ytlacjifnniahhaa

namespace Go.Proofs.Ytlacjifnniahhaa
open Go Go.RowKit Go.Shelf
attribute [local go_sem] Oper.semAt_some
set_option linter.unusedVariables false
set_option linter.unusedSimpArgs false

def shD (dx dy : Int) (d : Dt) : Dt := (d.1 + dx, d.2 + dy)
theorem mvD_sh {dx dy : Int} {x : Dt} (hx : ltF x = true) (hy : ltF (mvD dx dy x) = true) (wx : -9223372036854775808 ≤ dx ∧ dx ≤ 9223372036854775807) (wy : -9223372036854775808 ≤ dy ∧ dy ≤ 9223372036854775807) : mvD dx dy x = shD dx dy x := by
  have h1 := ltF_in hx
  have h2 := ltF_in hy
  unfold mvD wrap64 at h2
  unfold mvD shD wrap64
  simp only at h2
  refine Prod.ext ?_ ?_ <;> simp only <;> omega
theorem mvL_sh {dx dy : Int} {Ls : List (List Dt)} (hx : Ls.flatten.all ltF = true) (hy : (mvL dx dy Ls).flatten.all ltF = true) (wx : -9223372036854775808 ≤ dx ∧ dx ≤ 9223372036854775807) (wy : -9223372036854775808 ≤ dy ∧ dy ≤ 9223372036854775807) : mvL dx dy Ls = Ls.map fun L => L.map (shD dx dy) := by
  unfold mvL
  refine List.map_congr_left fun L hL => List.map_congr_left fun x hm => ?_
  rw [List.all_eq_true] at hx hy
  exact mvD_sh (hx x (List.mem_flatten.2 ⟨L, hL, hm⟩)) (hy _ (List.mem_flatten.2 ⟨L.map (mvD dx dy), List.mem_map.2 ⟨L, hL, rfl⟩, List.mem_map.2 ⟨x, hm, rfl⟩⟩)) wx wy
theorem getD_sh (dx dy : Int) (L : List Dt) (k : Nat) (h : k < L.length) : (L.map (shD dx dy)).getD k (0, 0) = shD dx dy (L.getD k (0, 0)) := by
  rw [List.getD_eq_getElem?_getD, List.getD_eq_getElem?_getD, List.getElem?_map, List.getElem?_eq_getElem h]
  rfl
/-- The sum of the first lines of a ring further on. -/
theorem ring_sh (dx dy : Int) (L : List Dt) : ∀ k, k < L.length → arF (lnD (L.map (shD dx dy)) k) = arF (lnD L k) + dy * ((L.getD 0 (0, 0)).1 - (L.getD k (0, 0)).1) + dx * ((L.getD k (0, 0)).2 - (L.getD 0 (0, 0)).2)
  | 0, _ => by simp [lnD, arF]
  | k + 1, h => by
    have ih := ring_sh dx dy L k (by omega)
    rw [lnD_succ, lnD_succ, arF_snoc, arF_snoc, ih]
    have e1 : nxD L k = L.getD (k + 1) (0, 0) := by unfold nxD; rw [Nat.mod_eq_of_lt h]
    have e2 : nxD (L.map (shD dx dy)) k = shD dx dy (L.getD (k + 1) (0, 0)) := by
      unfold nxD
      rw [List.length_map, Nat.mod_eq_of_lt h, getD_sh _ _ _ _ h]
    rw [e1, e2, getD_sh _ _ _ _ (by omega)]
    unfold crs shD
    simp only
    generalize L.getD (k + 1) (0, 0) = b
    generalize L.getD k (0, 0) = a
    generalize L.getD 0 (0, 0) = z
    simp only [Int.add_mul, Int.mul_add, Int.mul_sub]
    have h1 := Int.mul_comm a.1 dy
    have h2 := Int.mul_comm b.1 dy
    have h3 := Int.mul_comm dx dy
    omega
theorem ring_all (dx dy : Int) (L : List Dt) : arF (lnL (L.map (shD dx dy))) = arF (lnL L) := by
  unfold lnL
  rw [List.length_map]
  cases hn : L.length with
  | zero => simp [lnD, arF]
  | succ m =>
    have ih := ring_sh dx dy L m (by omega)
    rw [lnD_succ, lnD_succ, arF_snoc, arF_snoc, ih]
    have e1 : nxD L m = L.getD 0 (0, 0) := by unfold nxD; rw [hn, Nat.mod_self]
    have e2 : nxD (L.map (shD dx dy)) m = shD dx dy (L.getD 0 (0, 0)) := by
      unfold nxD
      rw [List.length_map, hn, Nat.mod_self, getD_sh _ _ _ _ (by omega)]
    rw [e1, e2, getD_sh _ _ _ _ (by omega)]
    unfold crs shD
    simp only
    generalize L.getD m (0, 0) = a
    generalize L.getD 0 (0, 0) = z
    simp only [Int.add_mul, Int.mul_add, Int.mul_sub]
    have h1 := Int.mul_comm a.1 dy
    have h2 := Int.mul_comm z.1 dy
    have h3 := Int.mul_comm dx dy
    omega
theorem arF_app (X Y : List (Dt × Dt)) : arF (X ++ Y) = arF X + arF Y := by simp [arF]
theorem area_sh (dx dy : Int) : ∀ Ls : List (List Dt), arF (lnA (Ls.map fun L => L.map (shD dx dy))) = arF (lnA Ls)
  | [] => rfl
  | L :: Ls => by
    have ih := area_sh dx dy Ls
    unfold lnA at ih ⊢
    rw [List.map_cons, List.flatMap_cons, List.flatMap_cons, arF_app, arF_app, ih, ring_all]
theorem fold_sh (f : Int → Int → Int) (d : Int) (hf : ∀ a b, f (a + d) (b + d) = f a b + d) : ∀ (xs : List Int) (a : Int), (xs.map (· + d)).foldl f (a + d) = xs.foldl f a + d
  | [], a => rfl
  | x :: xs, a => by
    rw [List.map_cons, List.foldl_cons, List.foldl_cons, hf]
    exact fold_sh f d hf xs _
theorem hullD_sh (dx dy : Int) (D : List Dt) (h : D ≠ []) : hullD (D.map (shD dx dy)) = ⟨(hullD D).x0 + dx, (hullD D).y0 + dy, (hullD D).x1 + dx, (hullD D).y1 + dy⟩ := by
  unfold hullD
  rw [if_neg (by simpa using h), if_neg h]
  have e1 : ((D.map (shD dx dy)).map fun d => d.1) = (D.map fun d => d.1).map (· + dx) := by rw [List.map_map, List.map_map]; rfl
  have e2 : ((D.map (shD dx dy)).map fun d => d.2) = (D.map fun d => d.2).map (· + dy) := by rw [List.map_map, List.map_map]; rfl
  rw [e1, e2]
  unfold hullQ
  have g : ∀ (xs : List Int) (d : Int), xs ≠ [] → (xs.map (· + d)).getD 0 0 = xs.getD 0 0 + d := fun xs d hx => by
    cases xs with
    | nil => exact absurd rfl hx
    | cons x r => rfl
  rw [g _ _ (by simpa using h), g _ _ (by simpa using h), fold_sh min dx (by intros; omega), fold_sh min dy (by intros; omega), fold_sh max dx (by intros; omega), fold_sh max dy (by intros; omega)]
theorem flat_sh (dx dy : Int) (Ls : List (List Dt)) : (Ls.map fun L => L.map (shD dx dy)).flatten = Ls.flatten.map (shD dx dy) := by
  induction Ls with
  | nil => rfl
  | cons L Ls ih => rw [List.map_cons, List.flatten_cons, List.flatten_cons, ih, List.map_append]
theorem box_sh (a b : Int) (Ls : List (List Dt)) (h : boxF Ls ≠ ⟨0, 0, 0, 0⟩) : boxF (Ls.map fun L => L.map (shD (64 * a) (64 * b))) = ⟨(boxF Ls).x0 + a, (boxF Ls).y0 + b, (boxF Ls).x1 + a, (boxF Ls).y1 + b⟩ := by
  have he : emptyQ (bxF Ls.flatten) = false := by
    cases hE : emptyQ (bxF Ls.flatten) with
    | false => rfl
    | true => exact absurd (by unfold boxF; rw [hE]; rfl) h
  have hne : Ls.flatten ≠ [] := fun e => by
    rw [e] at he
    exact absurd he (by rw [bxF_nil]; decide)
  have hb : boxF Ls = bxF Ls.flatten := by unfold boxF; rw [he]; rfl
  have hs : bxF (Ls.flatten.map (shD (64 * a) (64 * b))) = ⟨(bxF Ls.flatten).x0 + a, (bxF Ls.flatten).y0 + b, (bxF Ls.flatten).x1 + a, (bxF Ls.flatten).y1 + b⟩ := by
    unfold bxF
    rw [hullD_sh _ _ _ hne]
    simp only [Q.mk.injEq]
    omega
  rw [hb]
  unfold boxF
  rw [flat_sh, hs]
  have he2 : emptyQ (⟨(bxF Ls.flatten).x0 + a, (bxF Ls.flatten).y0 + b, (bxF Ls.flatten).x1 + a, (bxF Ls.flatten).y1 + b⟩ : Q) = false := by
    unfold emptyQ at he ⊢
    simp at he ⊢
    omega
  rw [he2]
  rfl
end Go.Proofs.Ytlacjifnniahhaa

namespace Go.Proofs.Ytlacjifnniahhaa
open Go Go.RowKit Go.Shelf
attribute [local go_sem] Oper.semAt_some
set_option linter.unusedVariables false
set_option linter.unusedSimpArgs false

set_option maxRecDepth 100000 in
theorem large21 (B : Nat) (A : Option Addr) (c : Nat) (Ls : List (List Pt)) (w : World) (hB : B ≤ w.heap.size) (h : OutAt w B A Ls) (hm : ∀ L ∈ Ls, L.length ≤ 17592186044416) (hn : Ls.length ≤ 9223372036854775807) (r : Bool) (hr : bigB Ls = r) :
    Calls Try.prog 14 #[.slice A Ls.length c] w fun e w' => e = .returned (.bool r) ∧ Below w.heap.size w w' := by
  have HL := Lib.hid h
  have HM := Lib.hid hm
  obtain ⟨n, hnn⟩ : ∃ n, n = Ls.length := ⟨_, rfl⟩
  rw [← hnn] at hn ⊢
  have HN := Lib.hid hnn
  have HR := Lib.hid hr
  clear h hnn hm hr
  go_enter Try.func14, Try.ntmps14
  go_wp2
  go_loopw [3, 4] (fun s i wr => ∃ k : Nat, k ≤ n ∧ k ≤ 400 ∧ i = .int .i64 k ∧ s = .int .i64 (cntO (Ls.take k) : Nat) ∧ Below w.heap.size w wr) (fun _ i _ => n - (intOf i).toNat)
  case atStart => exact ⟨0, Nat.zero_le _, Nat.zero_le _, rfl, rfl, Below.refl _ _⟩
  case round =>
    obtain ⟨k, hk, hk2, rfl, rfl, hb⟩ := hrel
    by_cases hlt : k < n
    · have d1 : decide ((k : Int) < (n : Int)) = true := by simp; omega
      by_cases hlt2 : k < 400
      · have d2 : decide ((k : Int) < 400) = true := by simp; omega
        obtain ⟨L, hL⟩ := at_some (L := Ls) (k := k) (by rw [← HN.out]; exact hlt)
        obtain ⟨b, o, Ai, ci, rfl, hbl, c0, hE⟩ := HL.out.at' k L hL
        have g0 := (hb.cell (p := ⟨b, o + k, none⟩) (Nat.lt_of_lt_of_le hbl hB)).trans c0
        have g3 : b < wr.heap.size := by have := hb.size; omega
        have HS := Lib.hid (show cntO (Ls.take (k + 1)) = cntO (Ls.take k) + L.length by rw [take_snoc1 hL, cntO_snoc])
        have hl : L.length ≤ 17592186044416 := HM.out L (List.mem_of_getElem? hL)
        have hc : cntO (Ls.take k) ≤ 7036874417766400 := Nat.le_trans (cntO_le fun M hM => HM.out M (List.mem_of_mem_take hM)) (by have : (Ls.take k).length ≤ 400 := Nat.le_trans (List.length_take_le _ _) (by omega); omega)
        clear c0 hE hL
        generalize L.length = l at *
        generalize cntO (Ls.take k) = s at *
        go_wp2
        go_roundw
        case rel => exact ⟨k + 1, by omega, by omega, by go_num, congrArg (Value.int .i64) (by rw [HS.out]; omega), hb⟩
        case measure => simp [intOf]; omega
      · obtain rfl : k = 400 := by omega
        have d2 : decide ((400 : Int) < 400) = false := by simp
        have d3 : decide (300 < (n : Int)) = true := by simp; omega
        have HB := Lib.hid (show r = true by rw [← HR.out]; unfold bigB; rw [← HN.out]; simp; omega)
        go_wp2
        go_ret
        exact ⟨by rw [HB.out]; rfl, hb⟩
    · obtain rfl : k = n := by omega
      have d1 : decide ((k : Int) < (k : Int)) = false := by simp
      have HT := Lib.hid (show Ls.take k = Ls by rw [HN.out]; exact List.take_length)
      by_cases h3 : 300 < k
      · have d3 : decide (300 < (k : Int)) = true := by simp; omega
        have HB := Lib.hid (show r = true by rw [← HR.out]; unfold bigB; rw [← HN.out]; simp; omega)
        go_wp2
        go_ret
        exact ⟨by rw [HB.out]; rfl, hb⟩
      · have d3 : decide (300 < (k : Int)) = false := by simp; omega
        have HB := Lib.hid (show r = decide (5000 < cntO (Ls.take k)) by rw [← HR.out, HT.out]; unfold bigB; rw [← HN.out]; simp; omega)
        generalize cntO (Ls.take k) = s at *
        by_cases h4 : 5000 < s
        · have d4 : decide (5000 < (s : Int)) = true := by simp; omega
          go_wp2
          go_ret
          exact ⟨by rw [HB.out]; simp [h4], hb⟩
        · have d4 : decide (5000 < (s : Int)) = false := by simp; omega
          go_wp2
          go_ret
          exact ⟨by rw [HB.out]; simp [h4], hb⟩

end Go.Proofs.Ytlacjifnniahhaa

namespace Go.Proofs.Ytlacjifnniahhaa
open Go Go.RowKit Go.Shelf
attribute [local go_sem] Oper.semAt_some
set_option linter.unusedVariables false
set_option linter.unusedSimpArgs false

theorem farB_of {x : Int} (h : -1048576 ≤ x ∧ x ≤ 1048576) : farB x = false := by unfold farB; simp; omega
theorem dotE_fit {s : Sc} {x y : Int} (hms : mscB s = true) (h : dotE s x y = 0) : ltF (dotQ s x y) = true := by
  unfold dotE at h
  rw [if_pos hms] at h
  split at h
  · rename_i h1
    rw [Bool.and_eq_true] at h1
    exact h1.2
  · cases h
theorem line_pts {s : Sc} {x : Cv} (hms : mscB s = true) (hk : x.1 = 1) (ho : okCv s x = true) : ptsW (bowCv s x) = [dotQ s x.2.2.2.2.1 x.2.2.2.2.2.1] := by
  unfold okCv at ho
  simp only [Bool.and_eq_true, decide_eq_true_eq] at ho
  have ha := ltF_in (dotE_fit hms ho.1.1.1)
  have hd := ltF_in (dotE_fit hms ho.2)
  unfold bowCv
  rw [hk]
  generalize dotQ s x.2.1.1 x.2.1.2.1 = a at *
  generalize dotQ s x.2.2.1.1 x.2.2.1.2.1 = b at *
  generalize dotQ s x.2.2.2.1.1 x.2.2.2.1.2.1 = c at *
  generalize dotQ s x.2.2.2.2.1 x.2.2.2.2.2.1 = d at *
  have hm : mayW ⟨1, a.1, a.2, b.1, b.2, c.1, c.2, d.1, d.2⟩ = true := by
    unfold mayW plc
    simp [farD, farB_of ha.1, farB_of ha.2, farB_of hd.1, farB_of hd.2]
  have hp : pcW ⟨1, a.1, a.2, b.1, b.2, c.1, c.2, d.1, d.2⟩ = 1 := by
    unfold pcW
    rw [if_pos hm]
    have : need ⟨1, a.1, a.2, b.1, b.2, c.1, c.2, d.1, d.2⟩ = 0 := by
      unfold need bnW
      simp
    rw [this]
    decide
  unfold ptsW
  rw [hp]
  simp only [Int.toNat_one, List.range_one, List.map_cons, List.map_nil]
  have hn : ∀ z : Int, near z 1 = z := fun z => by unfold near; rw [if_neg (by omega)]; omega
  unfold atW
  simp [at1, hn]
end Go.Proofs.Ytlacjifnniahhaa
