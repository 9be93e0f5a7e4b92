/- Part 10 of the proof: OuN, Law, OpenInts, OpenNums, OuOp, OuQ, OuU. -/
import Derived.Test.YtmmdnhfonifhdaaRows
import Derived.ProofKit
import Derived.OpenShut
import Derived.Carry
import Derived.ChangeSlices
import Derived.Deep.Slices
import Derived.Deep.Fields
import Derived.SizedLaws
import Derived.Laws.Tables
import Derived.Laws.Rows
import Derived.Laws.CopyOwn
import Derived.Deep.WholeRow
import Derived.Test.YtmmdnhfonifhdaaM8OutlineCurves

namespace Go.Proofs.Ytmmdnhfonifhdaa
open Go Go.RowKit

theorem ringP_shift (L : List Pt) (i q : Int) : ringP L (i + L.length * q) = ringP L i := by unfold ringP; rw [Int.add_mul_emod_self_left]
theorem kd_add (L : List Pt) (i : Int) : kd L (i + L.length) = kd L i := by unfold kd; rw [ringP_add]
theorem kd_shift (L : List Pt) (i q : Int) : kd L (i + L.length * q) = kd L i := by unfold kd; rw [ringP_shift]
/-- An index in the ring, and its place in the list. -/
theorem ring_index {L : List Pt} (h : 0 < L.length) (i : Int) : ∃ (m : Nat) (q : Int), i = (m : Int) + L.length * q ∧ m < L.length ∧ L[m]? = some (ringP L i) := by
  obtain ⟨m, h1, h2, h3⟩ := ring_some h i
  refine ⟨m, i / L.length, ?_, h2, h3⟩
  have := Int.emod_add_mul_ediv i L.length
  omega
theorem okA_ring {L : List Pt} (h : mayC L = true) (i : Int) : okP (ringP L i) = true ∧ (kd L i = 3 → pairK (kd L (i - 1)) (kd L (i + 1)) = true) := by
  have h0 := may_pos h
  unfold mayC at h
  rw [Bool.and_eq_true, allI_true] at h
  obtain ⟨m, q, hi, hm, hp⟩ := ring_index h0 i
  have := h.2 m _ hp
  unfold okA at this
  rw [Bool.and_eq_true] at this
  refine ⟨this.1, fun h3 => ?_⟩
  have h4 : ((ringP L i).2.2 == 3) = true := by unfold kd at h3; rw [h3]; rfl
  rw [h4, Bool.not_true, Bool.false_or] at this
  have h5 := this.2
  unfold pairB at h5
  rw [hi, show (m : Int) + L.length * q - 1 = ((m : Int) - 1) + L.length * q by omega, show (m : Int) + L.length * q + 1 = ((m : Int) + 1) + L.length * q by omega, kd_shift, kd_shift]
  exact h5
theorem pairK_iff {a b : Int} : pairK a b = true ↔ (a = 1 ∧ b = 3) ∨ (a = 3 ∧ b = 1) := by simp [pairK]
theorem may_cub {L : List Pt} (h : mayC L = true) (i : Int) (h3 : kd L i = 3) : cubK L.length (kd L (i - 1)) (kd L (i + 1)) (kd L (i + 2)) (kd L (i - 2)) = true := by
  have h0 := may_pos h
  have hp := pairK_iff.1 ((okA_ring h i).2 h3)
  have hn : ¬ L.length < 3 := by
    intro hn
    have e : L.length = 1 ∨ L.length = 2 := by omega
    rcases e with e | e
    · have e1 := kd_add L (i - 1)
      have e2 := kd_add L i
      rw [e] at e1 e2
      rw [show i - 1 + ((1 : Nat) : Int) = i by omega] at e1
      rw [show i + ((1 : Nat) : Int) = i + 1 by omega] at e2
      omega
    · have e1 := kd_add L (i - 1)
      rw [e, show i - 1 + ((2 : Nat) : Int) = i + 1 by omega] at e1
      omega
  unfold cubK
  rw [if_neg hn]
  rcases hp with ⟨a, b⟩ | ⟨a, b⟩
  · rw [if_pos (by rw [a, b]; rfl)]
    have h4 := pairK_iff.1 ((okA_ring h (i + 1)).2 b)
    rw [show i + 1 - 1 = i by omega, show i + 1 + 1 = i + 2 by omega] at h4
    have : kd L (i + 2) = 1 := by omega
    rw [this]; rfl
  · rw [if_neg (by rw [a, b]; decide)]
    have h4 := pairK_iff.1 ((okA_ring h (i - 1)).2 a)
    rw [show i - 1 - 1 = i - 2 by omega, show i - 1 + 1 = i by omega] at h4
    have : kd L (i - 2) = 1 := by omega
    rw [a, b, this]; rfl
theorem cub_pair {n : Nat} {a b p q : Int} (h : cubK n a b p q = true) : pairK a b = true := by
  unfold cubK at h
  split at h
  · cases h
  · split at h
    · rename_i h1
      simp at h1
      rw [pairK_iff]; exact .inl h1
    · simp at h
      rw [pairK_iff]; exact .inr ⟨h.1.1, h.1.2⟩
theorem may_same (L : List Pt) : mayC L = rmayC L := by
  rw [Bool.eq_iff_iff]
  constructor
  · intro h
    have hm := h
    unfold mayC at h
    unfold rmayC
    rw [Bool.and_eq_true, allI_true] at h ⊢
    refine ⟨h.1, fun j p hp => ?_⟩
    have h1 := h.2 j p hp
    unfold okA at h1
    unfold okC
    rw [Bool.and_eq_true] at h1 ⊢
    refine ⟨h1.1, ?_⟩
    cases h3 : (p.2.2 == 3)
    · rfl
    · rw [Bool.not_true, Bool.false_or]
      unfold cubB
      exact may_cub hm j (by unfold kd; rw [ringP_nat hp]; simpa using h3)
  · intro h
    unfold rmayC at h
    unfold mayC
    rw [Bool.and_eq_true, allI_true] at h ⊢
    refine ⟨h.1, fun j p hp => ?_⟩
    have h1 := h.2 j p hp
    unfold okC at h1
    unfold okA
    rw [Bool.and_eq_true] at h1 ⊢
    refine ⟨h1.1, ?_⟩
    have h2 := h1.2
    cases h3 : (p.2.2 == 3)
    · rfl
    · rw [h3, Bool.not_true, Bool.false_or] at h2
      rw [Bool.not_true, Bool.false_or]
      unfold cubB at h2
      unfold pairB
      exact cub_pair h2
theorem chk_same (Ls : List (List Pt)) : rchkE Ls = chkE Ls := by
  unfold rchkE chkE
  rw [show rmayC = mayC from funext fun L => (may_same L).symm]
theorem revL_twice (L : List Pt) : revL (revL L) = L := by cases L <;> simp [revL]
theorem rev_twice (Ls : List (List Pt)) : (Ls.map revL).map revL = Ls := by
  rw [List.map_map]
  exact (List.map_congr_left (fun L _ => revL_twice L)).trans (List.map_id' Ls)
theorem cntO_app (a b : List (List Pt)) : cntO (a ++ b) = cntO a + cntO b := by simp [cntO]
theorem join_many {a b : List (List Pt)} (ha : chkE a = 0) (hb : chkE b = 0) : joinE a b = if 256 < a.length + b.length ∨ 4096 < cntO a + cntO b then 100 else 0 := by
  unfold joinE
  rw [if_pos ha, if_pos hb]
  have h1 := (chk_zero ha).2.2
  have h2 := (chk_zero hb).2.2
  unfold chkE
  rw [List.length_append, cntO_app]
  have : (a ++ b).all mayC = true := by
    rw [List.all_eq_true]
    intro L hL
    rcases List.mem_append.1 hL with h | h
    · exact h1 L h
    · exact h2 L h
  rw [if_pos this]

end Go.Proofs.Ytmmdnhfonifhdaa

namespace Go.Proofs.Ytmmdnhfonifhdaa
open Go.ChangeShapes Go.WideShapes Go.ChangeAt Go.RowKit

section
variable {H : Type} {enc : TypeId × Value → H} {P : Program}

theorem args_stay (hl : laidOutB P = true) {W W' : World} (hb : Below W.heap.size W W') :
    ∀ {ts : List TypeId} {vs : List Value} {ds : List (DataW H)} {ps : List MemPlace}, (ts.all fun t => P.readableRec t && decide (t < P.types.size)) = true →
      DataW.TrodAll enc P W 0 (fun _ => true) true ts vs ds ps → (∀ x ∈ ps, x.block < W.heap.size) → DataW.TrodAll enc P W' 0 (fun b => decide (b < W.heap.size)) true ts vs ds ps
  | [], vs, ds, ps, _, h, _ => by
    obtain ⟨rfl, rfl, rfl⟩ := trodAll_nil h
    exact h
  | t :: ts, vs, ds, ps, hr, h, hp => by
    obtain ⟨v, vs', d, ds', p, q, rfl, rfl, rfl, h1, h2⟩ := trodAll_cons h
    rw [List.all_cons, Bool.and_eq_true, Bool.and_eq_true, decide_eq_true_eq] at hr
    exact trodAll_cons_mk (Below.trod hl hr.1.1 hr.1.2 h1 hb fun x hx => hp x (List.mem_append_left _ hx)) (args_stay hl hb hr.2 h2 fun x hx => hp x (List.mem_append_right _ hx))

theorem law_post {f : Func} {s : ChangeSpec} {T : TypeId} {W W' : World} {args : Array Value} {ds : List (DataW H)} {before : List MemPlace} (hl : laidOutB P = true)
    (hr : f.resultTypes = #[T]) (hT : P.underlying T = some .bool) (hrd : (f.params.toList.all fun t => P.readableRec t && decide (t < P.types.size)) = true) (hv : s.vars = [])
    (h1 : (s.fn H ds).results = [.lit (.bool true)]) (h2 : (s.fn H ds).args = ds) (h3 : (s.fn H ds).vars = [])
    (hW : DataW.Whole enc P f.params.toList s.vars false W args.toList ds [] before) (hb : Below W.heap.size W W') :
    s.post enc P f false true false false W args (.bool true) W' := by
  have hlt : ∀ p ∈ before, p.block < W.heap.size := fun p hp => hW.lt p hp
  obtain ⟨p, q, hA, hV, rfl, _, _⟩ := id hW
  rw [hv] at hV
  have hq : q = [] := by simpa [DataW.TrodVars] using hV
  subst hq
  rw [List.append_nil] at hlt
  refine ⟨ds, [], _, [], p, [], hW, ?_, ?_, ?_, ?_, fun h => nomatch h⟩
  · rw [hr, List.append_nil, h1]; exact trodAll_mk1 (shut_bool hT true)
  · rw [List.append_nil, h2]; exact args_stay hl hb hrd hA hlt
  · rw [List.append_nil, h3, hv]; rfl
  · exact World.keptBut_mono (fun x hx => ⟨by simpa using hx, .inr (.inl hx)⟩) (hb.frame (· ∈ p))
end

theorem Try.own : ownKnob Try.prog.godebug = none := by kernel_rfl
theorem Try.laidOut : laidOutB Try.prog = true := by kernel_rfl

end Go.Proofs.Ytmmdnhfonifhdaa

namespace Go.Proofs.Ytmmdnhfonifhdaa
open Go.ChangeShapes Go.WideShapes Go.ChangeAt Go.RowKit

section
variable {H : Type} {enc : TypeId × Value → H} {P : Program}
theorem open_list_int {w : World} {t e : TypeId} {base : Nat} {spare : Nat → Bool} {held : Bool} {r : Reach} {b0 : Nat} {v : Value} {d : DataW H} {p : List MemPlace}
    (hs : P.underlying t = some (.slice e)) (he : P.underlying e = some (.int .i64)) (hC : P.cellsOf e = 1)
    (hv : Value.okWide P w r b0 t v) (h : DataW.Trod enc P w base spare held t v d p) :
    ∃ (A : Option Addr) (n c : Nat) (zs : List Int), v = .slice A n c ∧ zs.length = n ∧ n ≤ c ∧ c ≤ maxLen ∧ Lists w w.heap.size A (intCells zs) ∧ ∀ z ∈ zs, (Lit.int .i64 z).wf = true := by
  obtain ⟨a0, len, cap, rfl⟩ := okWide_slice hs hv
  obtain ⟨fuel, hf⟩ := h
  rcases open_ints hs he hC hf with ⟨hcs, _⟩ | ⟨a, len', cap', zs, hcs, _, hl, hm, hz, _, hcell, hwf⟩
  · simp [Value.cells] at hcs
    obtain ⟨rfl, rfl, rfl⟩ := hcs
    exact ⟨none, 0, 0, [], rfl, rfl, Nat.le_refl _, Nat.zero_le _, Lists.empty _ _ _, fun z hz => by cases hz⟩
  · simp [Value.cells] at hcs
    obtain ⟨rfl, rfl, rfl⟩ := hcs
    have hlen : len ≤ zs.length := by split at hz <;> omega
    have hc : ∀ j u, (intCells (zs.take len))[j]? = some u → w.cell? (a.add j) = some u := fun j u hu => by
      have hj : j < (zs.take len).length := by
        rcases Nat.lt_or_ge j (zs.take len).length with h | h
        · exact h
        · rw [List.getElem?_eq_none (by rw [intCells_len]; exact h)] at hu; cases hu
      rw [intCells_get _ _ hj] at hu
      have hj2 : j < len := by simp at hj; omega
      have hh := hcell j (by omega)
      cases hu
      rw [hh]
      simp [List.getD, hj2]
    refine ⟨some a, len, cap, zs.take len, rfl, by simp; omega, hl, hm, ⟨fun ha => (nomatch ha), fun a' ha => ?_, fun a' ha hx => ?_⟩, fun z hz' => hwf z (List.mem_of_mem_take hz')⟩
    · cases ha; exact hc
    · cases ha
      have h0 : 0 < (intCells (zs.take len)).length := by
        rcases Nat.eq_zero_or_pos (intCells (zs.take len)).length with h | h
        · exact absurd (List.eq_nil_of_length_eq_zero h) hx
        · exact h
      have := hc 0 _ (List.getElem?_eq_getElem h0)
      rcases Nat.lt_or_ge a.block w.heap.size with h | h
      · exact h
      · have e0 : (a.add 0) = a := by simp [Addr.add]
        rw [e0] at this
        unfold World.cell? at this
        rw [Array.getElem?_eq_none h] at this
        cases this
end

end Go.Proofs.Ytmmdnhfonifhdaa

namespace Go.Proofs.Ytmmdnhfonifhdaa
open Go.ChangeShapes Go.WideShapes Go.ChangeAt Go.RowKit

section
variable {H : Type} {enc : TypeId × Value → H} {P : Program}
theorem weights_all {e : TypeId} {d : DataW H} {n : Nat} (hn : n ∈ d.weights P e) : ∀ {l : List (DataW H)}, d ∈ l → n ∈ DataW.weightsAll P e l
  | [], h => (nomatch h)
  | a :: r, h => by
    rw [DataW.weightsAll]
    rcases List.mem_cons.1 h with h | h
    · subst h; exact List.mem_append_left _ hn
    · exact List.mem_append_right _ (weights_all hn h)

theorem cell_lt {w : World} {a : Addr} {v : Value} (h : w.cell? a = some v) : a.block < w.heap.size := by
  rcases Nat.lt_or_ge a.block w.heap.size with h1 | h1
  · exact h1
  · unfold World.cell? at h
    rw [Array.getElem?_eq_none h1] at h
    cases h

/-- A slice of numbers, at the value that a cell holds. -/
theorem open_nums {w : World} {t e : TypeId} {k : IntKind} {base fuel : Nat} {spare : Nat → Bool} {held : Bool} {v : Value} {x : DataW H × List MemPlace}
    (hs : P.underlying t = some (.slice e)) (he : P.underlying e = some (.int k)) (hC : P.cellsOf e = 1) (h : DataW.trod enc P w base spare held fuel t [v] = some x) :
    ∃ (A : Option Addr) (n c : Nat) (zs : List Int), v = .slice A n c ∧ zs.length = n ∧ n ≤ c ∧ c ≤ maxLen ∧ Lists w w.heap.size A (zs.map (Value.int k)) ∧ (∀ z ∈ zs, (Lit.int k z).wf = true) ∧
      ∀ b, (∀ m ∈ x.1.weights P t, m ≤ b) → n * P.bytesOf e ≤ b := by
  rcases open_ints hs he hC h with ⟨hcs, hx⟩ | ⟨a, len, cap, zs, hcs, _, hl, hm, hz, hx, hcell, hwf⟩
  · simp only [List.cons.injEq, and_true] at hcs
    exact ⟨none, 0, 0, [], hcs, rfl, Nat.le_refl _, Nat.zero_le _, Lists.empty _ _ _, (fun z hz => (nomatch hz)), fun b _ => by omega⟩
  · simp only [List.cons.injEq, and_true] at hcs
    have hlen : len ≤ zs.length := by split at hz <;> omega
    have hc : ∀ j u, ((zs.take len).map (Value.int k))[j]? = some u → w.cell? (a.add j) = some u := fun j u hu => by
      rw [List.getElem?_map, Option.map_eq_some_iff] at hu
      obtain ⟨z, hz1, rfl⟩ := hu
      have hj : j < (zs.take len).length := (List.getElem?_eq_some_iff.1 hz1).1
      have hj2 : j < zs.length := by simp at hj; omega
      rw [hcell j hj2]
      simp only [List.getElem?_take, List.length_take] at hz1 hj
      rw [if_pos (by omega)] at hz1
      simp [List.getD, hz1]
    refine ⟨some a, len, cap, zs.take len, hcs, by simp; omega, hl, hm, ⟨fun ha => (nomatch ha), fun a' ha => ?_, fun a' ha hne => ?_⟩, fun z hz' => hwf z (List.mem_of_mem_take hz'), fun b hb => ?_⟩
    · cases ha; exact hc
    · cases ha
      have h0 : 0 < ((zs.take len).map (Value.int k)).length := by
        rcases Nat.eq_zero_or_pos ((zs.take len).map (Value.int k)).length with h | h
        · exact absurd (List.eq_nil_of_length_eq_zero h) hne
        · exact h
      have := cell_lt (hc 0 _ (List.getElem?_eq_getElem h0))
      rwa [addr_add_block] at this
    · subst hx
      have := hb (((lits k (zs.take len) : List (DataW H)).length + (lits k (zs.drop len) : List (DataW H)).length) * P.bytesOf e) (by simp [DataW.weights, hs])
      refine Nat.le_trans (Nat.mul_le_mul_right _ ?_) this
      simp [lits]
      omega

theorem bytes_of_wf {zs : List Int} (h : ∀ z ∈ zs, (Lit.int .u8 z).wf = true) : Bytes8 (zs.map (Value.int .u8)) := fun u hu => by
  obtain ⟨z, hz, rfl⟩ := List.mem_map.1 hu
  have := h z hz
  simp [Lit.wf, IntKind.min, IntKind.max, IntKind.signed, IntKind.bits] at this
  exact ⟨z.toNat, by omega, by congr 1; omega⟩

theorem one_of {w : World} {base fuel : Nat} {spare : Nat → Bool} {held : Bool} {fs : Array Field} {cs : List Value} {ys : List (DataW H × List MemPlace)} (hone : Deep.oneCellFields P fs = true)
    (hg : ∀ (i : Nat) (f : Field), fs[i]? = some f → DataW.trod enc P w base spare held fuel f.type ((cs.drop f.offset).take (P.cellsOf f.type)) = ys[i]?) {j : Nat} {f : Field} {c : Value} {y : DataW H × List MemPlace}
    (hf : fs[j]? = some f) (hc : cs[j]? = some c) (hy : ys[j]? = some y) : DataW.trod enc P w base spare held fuel f.type [c] = some y := by
  have h := hg j f hf
  obtain ⟨h1, h2⟩ := Deep.hone_of hone j f hf
  obtain ⟨hj, hcj⟩ := List.getElem?_eq_some_iff.1 hc
  rw [h1, h2, hy, List.drop_eq_getElem_cons hj, hcj] at h
  exact h
end

end Go.Proofs.Ytmmdnhfonifhdaa

namespace Go.Proofs.Ytmmdnhfonifhdaa
open Go.ChangeShapes Go.WideShapes Go.ChangeAt Go.RowKit

theorem choose_listO {α : Type} {p : Nat → α → Prop} : ∀ {n : Nat}, (∀ i, i < n → ∃ x, p i x) → ∃ L : List α, L.length = n ∧ ∀ i x, L[i]? = some x → p i x
  | 0, _ => ⟨[], rfl, fun i x h => by simp at h⟩
  | n + 1, h => by
    obtain ⟨L, h1, h2⟩ := choose_listO (n := n) fun i hi => h i (by omega)
    obtain ⟨x, hx⟩ := h n (by omega)
    refine ⟨L ++ [x], by simp [h1], fun i y hy => ?_⟩
    rcases Nat.lt_or_ge i n with hi | hi
    · rw [List.getElem?_append_left (by omega)] at hy
      exact h2 i y hy
    · rw [List.getElem?_append_right (by omega)] at hy
      have h3 : i - L.length = 0 := by
        rcases Nat.eq_zero_or_pos (i - L.length) with h | h
        · exact h
        · rw [List.getElem?_eq_none (by simp; omega)] at hy; cases hy
      rw [h3] at hy
      cases hy
      rw [show i = n by omega]
      exact hx

section
variable {H : Type} {enc : TypeId × Value → H} {P : Program}
theorem open_pts {w : World} {t e : TypeId} {f0 f1 f2 : Field} {base fuel : Nat} {spare : Nat → Bool} {held : Bool} {v : Value} {x : DataW H × List MemPlace}
    (ht : P.underlying t = some (.slice e)) (he : P.underlying e = some (.struct #[f0, f1, f2])) (hone : Deep.oneCellFields P #[f0, f1, f2] = true) (hC : P.cellsOf e = 3)
    (i0 : P.underlying f0.type = some (.int .i64)) (i1 : P.underlying f1.type = some (.int .i64)) (i2 : P.underlying f2.type = some (.int .i64)) (h : DataW.trod enc P w base spare held fuel t [v] = some x) :
    ∃ (A : Option Addr) (c : Nat) (L : List Pt), v = .slice A L.length c ∧ Lists w w.heap.size A (ptCells L) ∧ ∀ b, (∀ m ∈ x.1.weights P t, m ≤ b) → L.length * P.bytesOf e ≤ b := by
  rcases Deep.open_slice ht h with ⟨hcs, _⟩ | ⟨a, len, cap, m, n, D, Pl, hcs, hb, hl, hm, hmm, hx, hi⟩
  · simp only [List.cons.injEq, and_true] at hcs
    exact ⟨none, 0, [], hcs, Lists.empty _ _ _, fun b _ => by simp⟩
  · simp only [List.cons.injEq, and_true] at hcs
    have hlm : len ≤ m := by split at hmm <;> omega
    obtain ⟨L, hLl, hL⟩ := choose_listO (n := len) (p := fun i (q : Pt) => w.cell? (a.add (i * 3)) = some (.int .i64 q.1) ∧ w.cell? (a.add (i * 3 + 1)) = some (.int .i64 q.2.1) ∧ w.cell? (a.add (i * 3 + 2)) = some (.int .i64 q.2.2)) fun i hil => by
      obtain ⟨cs', hc, ht'⟩ := hi i (by omega)
      rw [hC] at hc
      obtain ⟨ys, n', _, hy, _, hyl, hg⟩ := DataW.trod_struct he ht'
      obtain ⟨_, hcl, hat⟩ := World.cells?_some hc
      match cs', hcl with
      | [c0, c1, c2], _ =>
        match ys, hyl with
        | [y0, y1, y2], _ =>
          have k0 := one_of hone hg (j := 0) rfl rfl rfl
          have k1 := one_of hone hg (j := 1) rfl rfl rfl
          have k2 := one_of hone hg (j := 2) rfl rfl rfl
          obtain ⟨z0, e0, _, _⟩ := DataW.trod_int i0 k0
          obtain ⟨z1, e1, _, _⟩ := DataW.trod_int i1 k1
          obtain ⟨z2, e2, _, _⟩ := DataW.trod_int i2 k2
          simp only [List.cons.injEq, and_true] at e0 e1 e2
          subst e0 e1 e2
          have a0 : w.cell? (a.add (i * 3)) = some (.int .i64 z0) := by have := hat 0 (by omega); rw [Go.Deep.add_add] at this; exact this
          have a1 : w.cell? (a.add (i * 3 + 1)) = some (.int .i64 z1) := by have := hat 1 (by omega); rw [Go.Deep.add_add] at this; exact this
          have a2 : w.cell? (a.add (i * 3 + 2)) = some (.int .i64 z2) := by have := hat 2 (by omega); rw [Go.Deep.add_add] at this; exact this
          exact ⟨(z0, z1, z2), a0, a1, a2⟩
    have hcell : ∀ j u, (ptCells L)[j]? = some u → w.cell? (a.add j) = some u := fun j u hu => by
      have hj : j < L.length * 3 := by
        rcases Nat.lt_or_ge j (L.length * 3) with h | h
        · exact h
        · rw [List.getElem?_eq_none (by rw [ptCells_len]; exact h)] at hu; cases hu
      obtain ⟨q, hq⟩ : ∃ q, L[j / 3]? = some q := ⟨L[j / 3]'(by omega), List.getElem?_eq_getElem _⟩
      obtain ⟨h1, h2, h3⟩ := ptCells_at L (j / 3) q hq
      obtain ⟨h4, h5, h6⟩ := hL _ _ hq
      rcases (show j % 3 = 0 ∨ j % 3 = 1 ∨ j % 3 = 2 by omega) with h | h | h
      · rw [show j / 3 * 3 = j by omega] at h1 h4
        rw [h1] at hu; cases hu; exact h4
      · rw [show j / 3 * 3 + 1 = j by omega] at h2 h5
        rw [h2] at hu; cases hu; exact h5
      · rw [show j / 3 * 3 + 2 = j by omega] at h3 h6
        rw [h3] at hu; cases hu; exact h6
    refine ⟨some a, cap, L, by rw [hLl]; exact hcs, ⟨fun ha => (nomatch ha), fun a' ha => ?_, fun a' ha hne => ?_⟩, fun b hbw => ?_⟩
    · cases ha; exact hcell
    · cases ha
      have h0 : 0 < (ptCells L).length := by
        rcases Nat.eq_zero_or_pos (ptCells L).length with h | h
        · exact absurd (List.eq_nil_of_length_eq_zero h) hne
        · exact h
      have := cell_lt (hcell 0 _ (List.getElem?_eq_getElem h0))
      rwa [addr_add_block] at this
    · subst hx
      refine Nat.le_trans ?_ (hbw _ (by simp only [DataW.weights, ht]; exact List.mem_cons_self))
      refine Nat.mul_le_mul_right _ ?_
      rw [hLl]
      simp

theorem open_outl {w : World} {t u e : TypeId} {f0 f1 f2 : Field} {base : Nat} {spare : Nat → Bool} {held : Bool} {r : Reach} {b0 : Nat} {v : Value} {d : DataW H} {p : List MemPlace}
    (ht : P.underlying t = some (.slice u)) (hu : P.underlying u = some (.slice e)) (hcu : P.cellsOf u = 1) (he : P.underlying e = some (.struct #[f0, f1, f2])) (hone : Deep.oneCellFields P #[f0, f1, f2] = true) (hC : P.cellsOf e = 3) (hb : P.bytesOf e = 24)
    (i0 : P.underlying f0.type = some (.int .i64)) (i1 : P.underlying f1.type = some (.int .i64)) (i2 : P.underlying f2.type = some (.int .i64))
    (hv : Value.okWide P w r b0 t v) (h : DataW.Trod enc P w base spare held t v d p) (hz : ∀ m ∈ d.weights P t, m ≤ reachBytes) :
    ∃ (A : Option Addr) (c : Nat) (Ls : List (List Pt)), v = .slice A Ls.length c ∧ OutAt w w.heap.size A Ls ∧ (∀ L ∈ Ls, L.length ≤ 17592186044416) ∧ Ls.length ≤ 9223372036854775807 := by
  obtain ⟨a0, len, cap, rfl⟩ := okWide_slice ht hv
  obtain ⟨fuel, hf⟩ := h
  rcases Deep.open_slice ht hf with ⟨hcs, _⟩ | ⟨a, len', cap', m, n, D, Pl, hcs, hbb, hl, hm, hmm, hx, hi⟩
  · simp [Value.cells] at hcs
    obtain ⟨rfl, rfl, rfl⟩ := hcs
    exact ⟨none, 0, [], rfl, ⟨fun i L h => by simp at h⟩, fun L h => by simp at h, by simp⟩
  · simp [Value.cells] at hcs
    obtain ⟨rfl, rfl, rfl⟩ := hcs
    unfold maxLen at hm
    have hlm : len ≤ m := by split at hmm <;> omega
    obtain ⟨Ls, hLl, hLs⟩ := choose_listO (n := len) (p := fun i (L : List Pt) => (∃ Ai ci, w.cell? (a.add i) = some (.slice Ai L.length ci) ∧ Lists w w.heap.size Ai (ptCells L)) ∧ L.length ≤ 17592186044416) fun i hil => by
      obtain ⟨cs', hc, ht'⟩ := hi i (by omega)
      rw [hcu, Nat.mul_one] at hc
      obtain ⟨_, hcl, hat⟩ := World.cells?_some hc
      match cs', hcl with
      | [c0], _ =>
        obtain ⟨Ai, ci, L, rfl, hL, hw⟩ := open_pts hu he hone hC i0 i1 i2 ht'
        have a0 : w.cell? (a.add i) = some (.slice Ai L.length ci) := by have := hat 0 (by omega); rw [Go.Deep.add_add] at this; exact this
        refine ⟨L, ⟨Ai, ci, a0, hL⟩, ?_⟩
        have := hw reachBytes fun m hm => hz m (by
          simp only [Prod.mk.injEq] at hx
          rw [hx.1]
          simp only [DataW.weights, ht]
          exact List.mem_cons_of_mem _ (List.mem_append_left _ (weights_all hm (List.mem_map.2 ⟨i, List.mem_range.2 hil, rfl⟩))))
        rw [hb] at this
        have hr := reachBytes_lt
        omega
    refine ⟨some a, cap, Ls, by rw [hLl], ⟨fun i L hL => ?_⟩, fun L hL => ?_, by omega⟩
    · obtain ⟨⟨Ai, ci, h1, h2⟩, _⟩ := hLs i L hL
      have hlt := cell_lt h1
      obtain ⟨b, o, s⟩ := a
      have hs : s = none := by
        obtain ⟨L0, hL0⟩ := at_some (L := Ls) (k := 0) (by have := (List.getElem?_eq_some_iff.1 hL).1; omega)
        obtain ⟨⟨_, _, h4, _⟩, _⟩ := hLs 0 L0 hL0
        simpa [Addr.add] using World.cell?_spot h4
      subst hs
      rw [addr_plain] at h1 hlt
      exact ⟨b, o, Ai, ci, rfl, hlt, h1, h2⟩
    · obtain ⟨i, hi⟩ := List.mem_iff_getElem?.1 hL
      exact (hLs i L hi).2
end

end Go.Proofs.Ytmmdnhfonifhdaa

namespace Go.Proofs.Ytmmdnhfonifhdaa
open Go Go.RowKit

def GaveO (n : Nat) (Ls : List (List Pt)) (w : World) (e : Ending) (w' : World) : Prop := ∃ A c, e = .returned (.slice A n c) ∧ OutAt w' w'.heap.size A Ls ∧ Below w.heap.size w w'
theorem gave {n : Nat} {Ls : List (List Pt)} {w : World} {e : Ending} {w' : World} (hn : Ls.length = n) (h : MadeOut w Ls e w') : GaveO n Ls w e w' := by
  obtain ⟨v, h1, h2, h3⟩ := h
  obtain ⟨A, c, rfl, o⟩ := h2.out
  exact ⟨A, c, by rw [← hn]; exact h1, o, h3⟩
theorem sm_of {Ls : List (List Pt)} (h : bigB Ls = false) : Sm2 Ls := by
  obtain ⟨h1, h2⟩ := big_no h
  refine ⟨by omega, fun L hL => ?_⟩
  have : L.length ≤ cntO Ls := by
    obtain ⟨i, hi⟩ := List.mem_iff_getElem?.1 hL
    have e1 := cntO_take Ls (i + 1)
    rw [take_snoc1 hi, cntO_snoc] at e1
    omega
  omega

end Go.Proofs.Ytmmdnhfonifhdaa

namespace Go.Proofs.Ytmmdnhfonifhdaa
open Go Go.RowKit

abbrev Cv := Int × Pt × Pt × Pt × Pt
def cvL (c : Cv) : List Value := .int .i64 c.1 :: ptCells [c.2.1, c.2.2.1, c.2.2.2.1, c.2.2.2.2]
def cvV (c : Cv) : Value := .agg (cvL c).toArray
def noP : Pt := (0, 0, 0)
def cvAt (L : List Pt) (k : Nat) : Cv :=
  if kd L ((k : Int) + 1) == 2 then (2, ringP L k, ringP L ((k : Int) + 1), noP, ringP L ((k : Int) + 2))
  else if kd L ((k : Int) + 1) == 3 then (3, ringP L k, ringP L ((k : Int) + 1), ringP L ((k : Int) + 2), ringP L ((k : Int) + 3))
  else (1, ringP L k, noP, noP, ringP L ((k : Int) + 1))
theorem cvSize : (Try.prog.info? 45).map (·.size) = some 13 := by kernel_rfl
/-- What the ring answers at a place, in every later world. -/
def CC (A : Option Addr) (c n : Nat) (w : World) (a : Int) (v : Pt) : Prop := ∀ w1, Below w.heap.size w w1 → Calls Try.prog 59 #[.slice A n c, .int .i64 a] w1 fun e w' => e = .returned (ptV v) ∧ Below w1.heap.size w1 w'
theorem bLine (x y z x' y' z' : Int) : Try.prog.built 45 [(0, .int .i64 1), (1, .agg #[.int .i64 x, .int .i64 y, .int .i64 z]), (4, .agg #[.int .i64 x', .int .i64 y', .int .i64 z'])] = some #[.int .i64 1, .int .i64 x, .int .i64 y, .int .i64 z, .int .i64 0, .int .i64 0, .int .i64 0, .int .i64 0, .int .i64 0, .int .i64 0, .int .i64 x', .int .i64 y', .int .i64 z'] := by kernel_rfl
theorem bQuad (x y z x' y' x2 y2 z2 : Int) : Try.prog.built 45 [(0, .int .i64 2), (1, .agg #[.int .i64 x, .int .i64 y, .int .i64 z]), (2, .agg #[.int .i64 x', .int .i64 y', .int .i64 2]), (4, .agg #[.int .i64 x2, .int .i64 y2, .int .i64 z2])] = some #[.int .i64 2, .int .i64 x, .int .i64 y, .int .i64 z, .int .i64 x', .int .i64 y', .int .i64 2, .int .i64 0, .int .i64 0, .int .i64 0, .int .i64 x2, .int .i64 y2, .int .i64 z2] := by kernel_rfl
theorem bCubic (x y z x' y' x2 y2 z2 x3 y3 z3 : Int) : Try.prog.built 45 [(0, .int .i64 3), (1, .agg #[.int .i64 x, .int .i64 y, .int .i64 z]), (2, .agg #[.int .i64 x', .int .i64 y', .int .i64 3]), (3, .agg #[.int .i64 x2, .int .i64 y2, .int .i64 z2]), (4, .agg #[.int .i64 x3, .int .i64 y3, .int .i64 z3])] = some #[.int .i64 3, .int .i64 x, .int .i64 y, .int .i64 z, .int .i64 x', .int .i64 y', .int .i64 3, .int .i64 x2, .int .i64 y2, .int .i64 z2, .int .i64 x3, .int .i64 y3, .int .i64 z3] := by kernel_rfl
theorem wpList_build_to {P : Program} {ops : Array Oper} {rest : List Oper} {o : Oper} {a : Act} {w : World} {Q : Exit → Act → World → Prop} (hg : o.guard = none) (t : TypeId) (parts : Array (Nat × Operand)) (ho : o.op = .build t parts)
    (l : List (Nat × Value)) (hl : (parts.map fun (i, x) => (i, a.eval x)).toList = l) (v : Array Value) (hf : P.built t l = some v) (h : wpList P ops Q rest (a.put o.dst (.agg v)) w) : wpList P ops Q (o :: rest) a w := by
  subst hl
  exact wpList_build hg t parts ho (by rw [hf]; rfl) (by rw [hf]; exact h)

set_option maxRecDepth 100000 in
set_option maxHeartbeats 1000000 in
theorem cf_line (A : Option Addr) (c n k : Nat) (w : World) (hn : n ≤ 1000000) (hk : k < n) (x y z x' y' z' : Int) (C1 : CC A c n w k (x, y, z)) (C2 : CC A c n w ((k : Int) + 1) (x', y', z')) (t0 : (z' == 2) = false) (t1 : (z' == 3) = false) :
    Calls Try.prog 36 #[.slice A n c, .int .i64 k] w fun e w' => e = .returned (.agg #[.int .i64 1, .int .i64 x, .int .i64 y, .int .i64 z, .int .i64 0, .int .i64 0, .int .i64 0, .int .i64 0, .int .i64 0, .int .i64 0, .int .i64 x', .int .i64 y', .int .i64 z']) ∧ Below w.heap.size w w' := by
  unfold CC ptV at *
  simp only at C1 C2
  have e2 : IntKind.i64.wrap ((k : Int) + 2) = (k : Int) + 2 := IntWalk.i64_in _ (by omega)
  have e3 : IntKind.i64.wrap ((k : Int) + 3) = (k : Int) + 3 := IntWalk.i64_in _ (by omega)
  go_enter Try.func36, Try.ntmps36
  go_wp2_with (first | (go_at_call 59; ((with_reducible refine (C1 _ ((Below.refl _ _).alloc (Nat.le_refl _) _)).mono ?_); rintro e w1 ⟨rfl, b1⟩)) | (go_at_call 59; ((with_reducible refine (C2 _ (((Below.refl _ _).alloc (Nat.le_refl _) _).trans (b1.mono (by simp)))).mono ?_); rintro e w2 ⟨rfl, b2⟩; have K0 := ((Blk.new w 45 #[.int .i64 0, .int .i64 0, .int .i64 0, .int .i64 0, .int .i64 0, .int .i64 0, .int .i64 0, .int .i64 0, .int .i64 0, .int .i64 0, .int .i64 0, .int .i64 0, .int .i64 0]).below b1).below b2; have hs0 := K0.lt; have B2 := (((Below.refl w.heap.size w).alloc (Nat.le_refl _) (.cells #[.int .i64 0, .int .i64 0, .int .i64 0, .int .i64 0, .int .i64 0, .int .i64 0, .int .i64 0, .int .i64 0, .int .i64 0, .int .i64 0, .int .i64 0, .int .i64 0, .int .i64 0] 45)).trans (b1.mono (by simp))).trans (b2.mono (by have := b1.size; simp at this; omega)); have B2s := B2.size; have B4 := (B2.alloc B2s (.cells #[.int .i64 x, .int .i64 y, .int .i64 z] 43)).alloc (by simp; omega) (.cells #[.int .i64 x', .int .i64 y', .int .i64 z'] 43); have KA := (Blk.new w2 43 #[.int .i64 x, .int .i64 y, .int .i64 z]).below ((Below.refl _ _).alloc (Nat.le_refl _) (.cells #[.int .i64 x', .int .i64 y', .int .i64 z'] 43)); have KB := Blk.new (w2.alloc (.cells #[.int .i64 x, .int .i64 y, .int .i64 z] 43)) 43 #[.int .i64 x', .int .i64 y', .int .i64 z']; have K0' := (K0.below ((Below.refl _ _).alloc (Nat.le_refl _) (.cells #[.int .i64 x, .int .i64 y, .int .i64 z] 43))).below ((Below.refl _ _).alloc (Nat.le_refl _) (.cells #[.int .i64 x', .int .i64 y', .int .i64 z'] 43)); have q0 := KB.cell 2; have q1 := KB.cell 1; have q2 := KB.cell 0; have q3 := KA.cell 0; have q4 := KA.cell 1; have q5 := KA.cell 2; simp only [World.size_alloc, List.getElem?_toArray, List.getElem?_cons_zero, List.getElem?_cons_succ] at q0 q1 q2 q3 q4 q5)) | (refine wpList_build_to rfl 45 #[(0, Operand.const (Value.int IntKind.i64 1)), (1, Operand.tmp 38), (4, Operand.tmp 39)] (by with_reducible rfl) [(0, .int .i64 1), (1, .agg #[.int .i64 x, .int .i64 y, .int .i64 z]), (4, .agg #[.int .i64 x', .int .i64 y', .int .i64 z'])] (by rfl) _ (bLine x y z x' y' z') ?_) | (refine wpList_store_row rfl 45 (.tmp 4) (.tmp 40) (by with_reducible rfl) w.heap.size #[.int .i64 1, .int .i64 x, .int .i64 y, .int .i64 z, .int .i64 0, .int .i64 0, .int .i64 0, .int .i64 0, .int .i64 0, .int .i64 0, .int .i64 x', .int .i64 y', .int .i64 z'] (by rfl) (by rfl) 45 #[.int .i64 0, .int .i64 0, .int .i64 0, .int .i64 0, .int .i64 0, .int .i64 0, .int .i64 0, .int .i64 0, .int .i64 0, .int .i64 0, .int .i64 0, .int .i64 0, .int .i64 0] K0' cvSize rfl (by simp [Value.oneCell']) ?_))
  refine bodyPost_ret (v := .agg #[.int .i64 1, .int .i64 x, .int .i64 y, .int .i64 z, .int .i64 0, .int .i64 0, .int .i64 0, .int .i64 0, .int .i64 0, .int .i64 0, .int .i64 x', .int .i64 y', .int .i64 z']) ?_ rfl ⟨rfl, ?_⟩
  · exact results_cell_row Try.results36 _ _ w.heap.size 45 #[.int .i64 1, .int .i64 x, .int .i64 y, .int .i64 z, .int .i64 0, .int .i64 0, .int .i64 0, .int .i64 0, .int .i64 0, .int .i64 0, .int .i64 x', .int .i64 y', .int .i64 z'] (0, 0) _ (by rfl) (setRow_heap _ _ _ #[.int .i64 1, .int .i64 x, .int .i64 y, .int .i64 z, .int .i64 0, .int .i64 0, .int .i64 0, .int .i64 0, .int .i64 0, .int .i64 0, .int .i64 x', .int .i64 y', .int .i64 z'] _ _ K0') Try.underlying45 rfl cvSize
  · exact below_setRow (B4) (Nat.le_refl _) _

set_option maxRecDepth 100000 in
set_option maxHeartbeats 1000000 in
theorem cf_quad (A : Option Addr) (c n k : Nat) (w : World) (hn : n ≤ 1000000) (hk : k < n) (x y z x' y' x2 y2 z2 : Int) (C1 : CC A c n w k (x, y, z)) (C2 : CC A c n w ((k : Int) + 1) (x', y', 2)) (C3 : CC A c n w ((k : Int) + 2) (x2, y2, z2)) :
    Calls Try.prog 36 #[.slice A n c, .int .i64 k] w fun e w' => e = .returned (.agg #[.int .i64 2, .int .i64 x, .int .i64 y, .int .i64 z, .int .i64 x', .int .i64 y', .int .i64 2, .int .i64 0, .int .i64 0, .int .i64 0, .int .i64 x2, .int .i64 y2, .int .i64 z2]) ∧ Below w.heap.size w w' := by
  unfold CC ptV at *
  simp only at C1 C2 C3
  have e2 : IntKind.i64.wrap ((k : Int) + 2) = (k : Int) + 2 := IntWalk.i64_in _ (by omega)
  have e3 : IntKind.i64.wrap ((k : Int) + 3) = (k : Int) + 3 := IntWalk.i64_in _ (by omega)
  go_enter Try.func36, Try.ntmps36
  go_wp2_with (first | (go_at_call 59; ((with_reducible refine (C1 _ ((Below.refl _ _).alloc (Nat.le_refl _) _)).mono ?_); rintro e w1 ⟨rfl, b1⟩)) | (go_at_call 59; ((with_reducible refine (C2 _ (((Below.refl _ _).alloc (Nat.le_refl _) _).trans (b1.mono (by simp)))).mono ?_); rintro e w2 ⟨rfl, b2⟩; have K0 := ((Blk.new w 45 #[.int .i64 0, .int .i64 0, .int .i64 0, .int .i64 0, .int .i64 0, .int .i64 0, .int .i64 0, .int .i64 0, .int .i64 0, .int .i64 0, .int .i64 0, .int .i64 0, .int .i64 0]).below b1).below b2; have hs0 := K0.lt; have B2 := (((Below.refl w.heap.size w).alloc (Nat.le_refl _) (.cells #[.int .i64 0, .int .i64 0, .int .i64 0, .int .i64 0, .int .i64 0, .int .i64 0, .int .i64 0, .int .i64 0, .int .i64 0, .int .i64 0, .int .i64 0, .int .i64 0, .int .i64 0] 45)).trans (b1.mono (by simp))).trans (b2.mono (by have := b1.size; simp at this; omega)); have B2s := B2.size; have B4 := (B2.alloc B2s (.cells #[.int .i64 x, .int .i64 y, .int .i64 z] 43)).alloc (by simp; omega) (.cells #[.int .i64 x', .int .i64 y', .int .i64 2] 43); have KA := (Blk.new w2 43 #[.int .i64 x, .int .i64 y, .int .i64 z]).below ((Below.refl _ _).alloc (Nat.le_refl _) (.cells #[.int .i64 x', .int .i64 y', .int .i64 2] 43)); have KB := Blk.new (w2.alloc (.cells #[.int .i64 x, .int .i64 y, .int .i64 z] 43)) 43 #[.int .i64 x', .int .i64 y', .int .i64 2]; have K0' := (K0.below ((Below.refl _ _).alloc (Nat.le_refl _) (.cells #[.int .i64 x, .int .i64 y, .int .i64 z] 43))).below ((Below.refl _ _).alloc (Nat.le_refl _) (.cells #[.int .i64 x', .int .i64 y', .int .i64 2] 43)); have q0 := KB.cell 2; have q1 := KB.cell 1; have q2 := KB.cell 0; have q3 := KA.cell 0; have q4 := KA.cell 1; have q5 := KA.cell 2; simp only [World.size_alloc, List.getElem?_toArray, List.getElem?_cons_zero, List.getElem?_cons_succ] at q0 q1 q2 q3 q4 q5)))
  obtain ⟨W4, hW4⟩ : ∃ W4, W4 = (w2.alloc (.cells #[.int .i64 x, .int .i64 y, .int .i64 z] 43)).alloc (.cells #[.int .i64 x', .int .i64 y', .int .i64 2] 43) := ⟨_, rfl⟩
  simp only [World.size_alloc] at KA KB K0'
  rw [← hW4] at KA KB K0' B4
  try rw [← hW4]
  have HD : ∀ W, Below W4.heap.size W4 W → W.cell? ⟨w2.heap.size, 0, none⟩ = some (.int .i64 x) ∧ W.cell? ⟨w2.heap.size, 1, none⟩ = some (.int .i64 y) ∧ W.cell? ⟨w2.heap.size, 2, none⟩ = some (.int .i64 z) ∧ w2.heap.size < W.heap.size ∧ W.cell? ⟨w2.heap.size + 1, 0, none⟩ = some (.int .i64 x') ∧ W.cell? ⟨w2.heap.size + 1, 1, none⟩ = some (.int .i64 y') ∧ W.cell? ⟨w2.heap.size + 1, 2, none⟩ = some (.int .i64 2) ∧ w2.heap.size + 1 < W.heap.size := fun W hW => ⟨(KA.below hW).cell 0, (KA.below hW).cell 1, (KA.below hW).cell 2, (KA.below hW).lt, (KB.below hW).cell 0, (KB.below hW).cell 1, (KB.below hW).cell 2, (KB.below hW).lt⟩
  have B4s := B4.size
  have h4 : w.heap.size < W4.heap.size := K0'.lt
  clear KA KB K0 b1 b2 B2 q0 q1 q2 q3 q4 q5
  have hI : Below W4.heap.size W4 W4.drew := (Below.refl _ _).drew
  refine wp_region_chain_last (fun W => Below W4.heap.size W4 W) [(0, false), (1, false), (2, false), (3, false), (4, false), (5, true), (6, false)] _ _ (by rfl) (by rfl) (by kernel_rfl) (by kernel_rfl) hI ?_
  repeat (first
    | (refine ChainL.skip (o := ?_) ?_ ?_ ?_; rotate_left; (focus (first | (simp only [List.getElem?_toArray, List.getElem?_cons_succ, List.getElem?_cons_zero]; with_reducible rfl) | (simp only [List.getElem?_toArray, List.getElem?_cons_zero]; with_reducible rfl))); (focus rfl); simp only [Act.put, List.setIfInBounds_toArray, List.set_cons_zero, List.set_cons_succ])
    | (refine ChainL.val (o := ?_) (v := ?_) ?_ ?_ ?_ ?_ ?_; rotate_left 2; (focus (first | (simp only [List.getElem?_toArray, List.getElem?_cons_succ, List.getElem?_cons_zero]; with_reducible rfl) | (simp only [List.getElem?_toArray, List.getElem?_cons_zero]; with_reducible rfl))); (focus (intro _ _ h; cases h)); (focus rfl); (focus (intro w' hJ; obtain ⟨y1, y2, y3, y4, y5, y6, y7, y8⟩ := HD _ hJ; go_simp <;> with_reducible rfl)); simp only [Act.put, List.setIfInBounds_toArray, List.set_cons_zero, List.set_cons_succ]))
  refine ChainL.call (o := ?_) (f := ?_) (args := ?_) ?_ ?_ ?_ ?_
  rotate_left 3
  (focus (simp only [List.getElem?_toArray, List.getElem?_cons_succ, List.getElem?_cons_zero]; with_reducible rfl))
  (focus rfl)
  (focus (go_simp; (constructor <;> with_reducible rfl)))
  with_reducible refine (C3 _ (B4.trans (hI.mono B4s))).mono ?_
  rintro e w5 ⟨rfl, b5⟩
  have I5 := hI.trans (b5.mono hI.size)
  refine ⟨_, rfl, I5, ?_⟩
  simp only [Act.put, List.setIfInBounds_toArray, List.set_cons_zero, List.set_cons_succ]
  repeat (first
    | (refine ChainL.skip (o := ?_) ?_ ?_ ?_; rotate_left; (focus (first | (simp only [List.getElem?_toArray, List.getElem?_cons_succ, List.getElem?_cons_zero]; with_reducible rfl) | (simp only [List.getElem?_toArray, List.getElem?_cons_zero]; with_reducible rfl))); (focus rfl); simp only [Act.put, List.setIfInBounds_toArray, List.set_cons_zero, List.set_cons_succ])
    | (refine ChainL.val (o := ?_) (v := ?_) ?_ ?_ ?_ ?_ ?_; rotate_left 2; (focus (first | (simp only [List.getElem?_toArray, List.getElem?_cons_succ, List.getElem?_cons_zero]; with_reducible rfl) | (simp only [List.getElem?_toArray, List.getElem?_cons_zero]; with_reducible rfl))); (focus (intro _ _ h; cases h)); (focus rfl); (focus (intro w' hJ; obtain ⟨y1, y2, y3, y4, y5, y6, y7, y8⟩ := HD _ hJ; go_simp <;> with_reducible rfl)); simp only [Act.put, List.setIfInBounds_toArray, List.set_cons_zero, List.set_cons_succ]))
  refine ChainL.nil ?_
  refine wp_store_row 45 _ _ rfl w.heap.size #[.int .i64 2, .int .i64 x, .int .i64 y, .int .i64 z, .int .i64 x', .int .i64 y', .int .i64 2, .int .i64 0, .int .i64 0, .int .i64 0, .int .i64 x2, .int .i64 y2, .int .i64 z2] rfl rfl 45 #[.int .i64 0, .int .i64 0, .int .i64 0, .int .i64 0, .int .i64 0, .int .i64 0, .int .i64 0, .int .i64 0, .int .i64 0, .int .i64 0, .int .i64 0, .int .i64 0, .int .i64 0] (K0'.below I5) cvSize rfl (by simp [Value.oneCell']) ?_
  simp only [Act.put]
  go_wp2
  refine bodyPost_ret (v := .agg #[.int .i64 2, .int .i64 x, .int .i64 y, .int .i64 z, .int .i64 x', .int .i64 y', .int .i64 2, .int .i64 0, .int .i64 0, .int .i64 0, .int .i64 x2, .int .i64 y2, .int .i64 z2]) ?_ rfl ⟨rfl, ?_⟩
  · exact results_cell_row Try.results36 _ _ w.heap.size 45 #[.int .i64 2, .int .i64 x, .int .i64 y, .int .i64 z, .int .i64 x', .int .i64 y', .int .i64 2, .int .i64 0, .int .i64 0, .int .i64 0, .int .i64 x2, .int .i64 y2, .int .i64 z2] (0, 0) _ (by rfl) (setRow_heap _ _ _ #[.int .i64 2, .int .i64 x, .int .i64 y, .int .i64 z, .int .i64 x', .int .i64 y', .int .i64 2, .int .i64 0, .int .i64 0, .int .i64 0, .int .i64 x2, .int .i64 y2, .int .i64 z2] _ _ (K0'.below I5)) Try.underlying45 rfl cvSize
  · exact below_setRow ((B4.trans (I5.mono B4s))) (Nat.le_refl _) _

set_option maxRecDepth 100000 in
set_option maxHeartbeats 1000000 in
theorem cf_cubic (A : Option Addr) (c n k : Nat) (w : World) (hn : n ≤ 1000000) (hk : k < n) (x y z x' y' x2 y2 z2 x3 y3 z3 : Int) (C1 : CC A c n w k (x, y, z)) (C2 : CC A c n w ((k : Int) + 1) (x', y', 3)) (C3 : CC A c n w ((k : Int) + 2) (x2, y2, z2)) (C4 : CC A c n w ((k : Int) + 3) (x3, y3, z3)) :
    Calls Try.prog 36 #[.slice A n c, .int .i64 k] w fun e w' => e = .returned (.agg #[.int .i64 3, .int .i64 x, .int .i64 y, .int .i64 z, .int .i64 x', .int .i64 y', .int .i64 3, .int .i64 x2, .int .i64 y2, .int .i64 z2, .int .i64 x3, .int .i64 y3, .int .i64 z3]) ∧ Below w.heap.size w w' := by
  unfold CC ptV at *
  simp only at C1 C2 C3 C4
  have e2 : IntKind.i64.wrap ((k : Int) + 2) = (k : Int) + 2 := IntWalk.i64_in _ (by omega)
  have e3 : IntKind.i64.wrap ((k : Int) + 3) = (k : Int) + 3 := IntWalk.i64_in _ (by omega)
  go_enter Try.func36, Try.ntmps36
  go_wp2_with (first | (go_at_call 59; ((with_reducible refine (C1 _ ((Below.refl _ _).alloc (Nat.le_refl _) _)).mono ?_); rintro e w1 ⟨rfl, b1⟩)) | (go_at_call 59; ((with_reducible refine (C2 _ (((Below.refl _ _).alloc (Nat.le_refl _) _).trans (b1.mono (by simp)))).mono ?_); rintro e w2 ⟨rfl, b2⟩; have K0 := ((Blk.new w 45 #[.int .i64 0, .int .i64 0, .int .i64 0, .int .i64 0, .int .i64 0, .int .i64 0, .int .i64 0, .int .i64 0, .int .i64 0, .int .i64 0, .int .i64 0, .int .i64 0, .int .i64 0]).below b1).below b2; have hs0 := K0.lt; have B2 := (((Below.refl w.heap.size w).alloc (Nat.le_refl _) (.cells #[.int .i64 0, .int .i64 0, .int .i64 0, .int .i64 0, .int .i64 0, .int .i64 0, .int .i64 0, .int .i64 0, .int .i64 0, .int .i64 0, .int .i64 0, .int .i64 0, .int .i64 0] 45)).trans (b1.mono (by simp))).trans (b2.mono (by have := b1.size; simp at this; omega)); have B2s := B2.size; have B4 := (B2.alloc B2s (.cells #[.int .i64 x, .int .i64 y, .int .i64 z] 43)).alloc (by simp; omega) (.cells #[.int .i64 x', .int .i64 y', .int .i64 3] 43); have KA := (Blk.new w2 43 #[.int .i64 x, .int .i64 y, .int .i64 z]).below ((Below.refl _ _).alloc (Nat.le_refl _) (.cells #[.int .i64 x', .int .i64 y', .int .i64 3] 43)); have KB := Blk.new (w2.alloc (.cells #[.int .i64 x, .int .i64 y, .int .i64 z] 43)) 43 #[.int .i64 x', .int .i64 y', .int .i64 3]; have K0' := (K0.below ((Below.refl _ _).alloc (Nat.le_refl _) (.cells #[.int .i64 x, .int .i64 y, .int .i64 z] 43))).below ((Below.refl _ _).alloc (Nat.le_refl _) (.cells #[.int .i64 x', .int .i64 y', .int .i64 3] 43)); have q0 := KB.cell 2; have q1 := KB.cell 1; have q2 := KB.cell 0; have q3 := KA.cell 0; have q4 := KA.cell 1; have q5 := KA.cell 2; simp only [World.size_alloc, List.getElem?_toArray, List.getElem?_cons_zero, List.getElem?_cons_succ] at q0 q1 q2 q3 q4 q5)))
  obtain ⟨W4, hW4⟩ : ∃ W4, W4 = (w2.alloc (.cells #[.int .i64 x, .int .i64 y, .int .i64 z] 43)).alloc (.cells #[.int .i64 x', .int .i64 y', .int .i64 3] 43) := ⟨_, rfl⟩
  simp only [World.size_alloc] at KA KB K0'
  rw [← hW4] at KA KB K0' B4
  try rw [← hW4]
  have HD : ∀ W, Below W4.heap.size W4 W → W.cell? ⟨w2.heap.size, 0, none⟩ = some (.int .i64 x) ∧ W.cell? ⟨w2.heap.size, 1, none⟩ = some (.int .i64 y) ∧ W.cell? ⟨w2.heap.size, 2, none⟩ = some (.int .i64 z) ∧ w2.heap.size < W.heap.size ∧ W.cell? ⟨w2.heap.size + 1, 0, none⟩ = some (.int .i64 x') ∧ W.cell? ⟨w2.heap.size + 1, 1, none⟩ = some (.int .i64 y') ∧ W.cell? ⟨w2.heap.size + 1, 2, none⟩ = some (.int .i64 3) ∧ w2.heap.size + 1 < W.heap.size := fun W hW => ⟨(KA.below hW).cell 0, (KA.below hW).cell 1, (KA.below hW).cell 2, (KA.below hW).lt, (KB.below hW).cell 0, (KB.below hW).cell 1, (KB.below hW).cell 2, (KB.below hW).lt⟩
  have B4s := B4.size
  have h4 : w.heap.size < W4.heap.size := K0'.lt
  clear KA KB K0 b1 b2 B2 q0 q1 q2 q3 q4 q5
  have hI : Below W4.heap.size W4 W4.drew := (Below.refl _ _).drew
  refine wp_region_chain_last (fun W => Below W4.heap.size W4 W) [(0, false), (1, false), (2, false), (3, false), (4, false), (6, false), (7, false), (8, false), (5, true), (9, true), (10, false)] _ _ (by rfl) (by rfl) (by kernel_rfl) (by kernel_rfl) hI ?_
  repeat (first
    | (refine ChainL.skip (o := ?_) ?_ ?_ ?_; rotate_left; (focus (first | (simp only [List.getElem?_toArray, List.getElem?_cons_succ, List.getElem?_cons_zero]; with_reducible rfl) | (simp only [List.getElem?_toArray, List.getElem?_cons_zero]; with_reducible rfl))); (focus rfl); simp only [Act.put, List.setIfInBounds_toArray, List.set_cons_zero, List.set_cons_succ])
    | (refine ChainL.val (o := ?_) (v := ?_) ?_ ?_ ?_ ?_ ?_; rotate_left 2; (focus (first | (simp only [List.getElem?_toArray, List.getElem?_cons_succ, List.getElem?_cons_zero]; with_reducible rfl) | (simp only [List.getElem?_toArray, List.getElem?_cons_zero]; with_reducible rfl))); (focus (intro _ _ h; cases h)); (focus rfl); (focus (intro w' hJ; obtain ⟨y1, y2, y3, y4, y5, y6, y7, y8⟩ := HD _ hJ; go_simp <;> with_reducible rfl)); simp only [Act.put, List.setIfInBounds_toArray, List.set_cons_zero, List.set_cons_succ]))
  refine ChainL.call (o := ?_) (f := ?_) (args := ?_) ?_ ?_ ?_ ?_
  rotate_left 3
  (focus (simp only [List.getElem?_toArray, List.getElem?_cons_succ, List.getElem?_cons_zero]; with_reducible rfl))
  (focus rfl)
  (focus (go_simp; (constructor <;> with_reducible rfl)))
  with_reducible refine (C3 _ (B4.trans (hI.mono B4s))).mono ?_
  rintro e w5 ⟨rfl, b5⟩
  have I5 := hI.trans (b5.mono hI.size)
  refine ⟨_, rfl, I5, ?_⟩
  simp only [Act.put, List.setIfInBounds_toArray, List.set_cons_zero, List.set_cons_succ]
  refine ChainL.call (o := ?_) (f := ?_) (args := ?_) ?_ ?_ ?_ ?_
  rotate_left 3
  (focus (simp only [List.getElem?_toArray, List.getElem?_cons_succ, List.getElem?_cons_zero]; with_reducible rfl))
  (focus rfl)
  (focus (go_simp; (constructor <;> with_reducible rfl)))
  with_reducible refine (C4 _ (B4.trans (I5.mono B4s))).mono ?_
  rintro e w6 ⟨rfl, b6⟩
  have I6 := I5.trans (b6.mono I5.size)
  refine ⟨_, rfl, I6, ?_⟩
  simp only [Act.put, List.setIfInBounds_toArray, List.set_cons_zero, List.set_cons_succ]
  repeat (first
    | (refine ChainL.skip (o := ?_) ?_ ?_ ?_; rotate_left; (focus (first | (simp only [List.getElem?_toArray, List.getElem?_cons_succ, List.getElem?_cons_zero]; with_reducible rfl) | (simp only [List.getElem?_toArray, List.getElem?_cons_zero]; with_reducible rfl))); (focus rfl); simp only [Act.put, List.setIfInBounds_toArray, List.set_cons_zero, List.set_cons_succ])
    | (refine ChainL.val (o := ?_) (v := ?_) ?_ ?_ ?_ ?_ ?_; rotate_left 2; (focus (first | (simp only [List.getElem?_toArray, List.getElem?_cons_succ, List.getElem?_cons_zero]; with_reducible rfl) | (simp only [List.getElem?_toArray, List.getElem?_cons_zero]; with_reducible rfl))); (focus (intro _ _ h; cases h)); (focus rfl); (focus (intro w' hJ; obtain ⟨y1, y2, y3, y4, y5, y6, y7, y8⟩ := HD _ hJ; go_simp <;> with_reducible rfl)); simp only [Act.put, List.setIfInBounds_toArray, List.set_cons_zero, List.set_cons_succ]))
  refine ChainL.nil ?_
  refine wp_store_row 45 _ _ rfl w.heap.size #[.int .i64 3, .int .i64 x, .int .i64 y, .int .i64 z, .int .i64 x', .int .i64 y', .int .i64 3, .int .i64 x2, .int .i64 y2, .int .i64 z2, .int .i64 x3, .int .i64 y3, .int .i64 z3] rfl rfl 45 #[.int .i64 0, .int .i64 0, .int .i64 0, .int .i64 0, .int .i64 0, .int .i64 0, .int .i64 0, .int .i64 0, .int .i64 0, .int .i64 0, .int .i64 0, .int .i64 0, .int .i64 0] (K0'.below I6) cvSize rfl (by simp [Value.oneCell']) ?_
  simp only [Act.put]
  go_wp2
  refine bodyPost_ret (v := .agg #[.int .i64 3, .int .i64 x, .int .i64 y, .int .i64 z, .int .i64 x', .int .i64 y', .int .i64 3, .int .i64 x2, .int .i64 y2, .int .i64 z2, .int .i64 x3, .int .i64 y3, .int .i64 z3]) ?_ rfl ⟨rfl, ?_⟩
  · exact results_cell_row Try.results36 _ _ w.heap.size 45 #[.int .i64 3, .int .i64 x, .int .i64 y, .int .i64 z, .int .i64 x', .int .i64 y', .int .i64 3, .int .i64 x2, .int .i64 y2, .int .i64 z2, .int .i64 x3, .int .i64 y3, .int .i64 z3] (0, 0) _ (by rfl) (setRow_heap _ _ _ #[.int .i64 3, .int .i64 x, .int .i64 y, .int .i64 z, .int .i64 x', .int .i64 y', .int .i64 3, .int .i64 x2, .int .i64 y2, .int .i64 z2, .int .i64 x3, .int .i64 y3, .int .i64 z3] _ _ (K0'.below I6)) Try.underlying45 rfl cvSize
  · exact below_setRow ((B4.trans (I6.mono B4s))) (Nat.le_refl _) _

theorem curveFrom_any (B : Nat) (A : Option Addr) (c : Nat) (L : List Pt) (k : Nat) (w : World) (hB : B ≤ w.heap.size) (h : Lists w B A (ptCells L)) (hn : L.length ≤ 1000000) (hk : k < L.length) :
    Calls Try.prog 36 #[.slice A L.length c, .int .i64 k] w fun e w' => e = .returned (cvV (cvAt L k)) ∧ Below w.heap.size w w' := by
  have C := fun (a : Int) (ha : 0 ≤ a) (ha2 : a ≤ 100000000) => (fun (w1 : World) (b1 : Below w.heap.size w w1) => ring_any B A c L a w1 (Nat.le_trans hB b1.size) (h.below (b1.mono hB)) (by omega) (by omega) (by omega) ha2 : CC A c L.length w a (ringP L a))
  have C1 := C (k : Int) (by omega) (by omega)
  have C2 := C ((k : Int) + 1) (by omega) (by omega)
  have C3 := C ((k : Int) + 2) (by omega) (by omega)
  have C4 := C ((k : Int) + 3) (by omega) (by omega)
  unfold cvAt kd
  generalize L.length = n at hn hk C1 C2 C3 C4
  clear C h hB
  generalize ringP L (k : Int) = p at *
  generalize ringP L ((k : Int) + 1) = q at *
  generalize ringP L ((k : Int) + 2) = p2 at *
  generalize ringP L ((k : Int) + 3) = p3 at *
  obtain ⟨x, y, z⟩ := p
  obtain ⟨x', y', z'⟩ := q
  obtain ⟨x2, y2, z2⟩ := p2
  obtain ⟨x3, y3, z3⟩ := p3
  dsimp only
  cases t0 : (z' == 2)
  · cases t1 : (z' == 3)
    · exact cf_line A c n k w hn hk x y z x' y' z' C1 C2 t0 t1
    · obtain rfl : z' = 3 := by simpa using t1
      exact cf_cubic A c n k w hn hk x y z x' y' x2 y2 z2 x3 y3 z3 C1 C2 C3 C4
  · obtain rfl : z' = 2 := by simpa using t0
    exact cf_quad A c n k w hn hk x y z x' y' x2 y2 z2 C1 C2 C3

end Go.Proofs.Ytmmdnhfonifhdaa
