/- Part 10 of the proof: OuN, Law, OpenInts, OpenNums, OuOp, OuQ, Law4, OuT. -/
import Derived.Test.YtjpffakhhfcgaaaRows
import Derived.ProofKit
import Derived.OpenShut
import Derived.Carry
import Derived.ChangeSlices
import Derived.Deep.Slices
import Derived.Deep.Fields
import Derived.SizedLaws
import Derived.Lib.SmallJoins
import Derived.Test.YtjpffakhhfcgaaaCOut8

namespace Go.Proofs.Ytjpffakhhfcgaaa
open Go Go.RowKit

theorem ringP_shift (L : List Pt) (i q : Int) : ringP L (i + L.length * q) = ringP L i := by unfold ringP; rw [Int.add_mul_emod_self_left]
theorem kd_add (L : List Pt) (i : Int) : kd L (i + L.length) = kd L i := by unfold kd; rw [ringP_add]
theorem kd_shift (L : List Pt) (i q : Int) : kd L (i + L.length * q) = kd L i := by unfold kd; rw [ringP_shift]
/-- An index in the ring, and its place in the list. -/
theorem ring_index {L : List Pt} (h : 0 < L.length) (i : Int) : ∃ (m : Nat) (q : Int), i = (m : Int) + L.length * q ∧ m < L.length ∧ L[m]? = some (ringP L i) := by
  obtain ⟨m, h1, h2, h3⟩ := ring_some h i
  refine ⟨m, i / L.length, ?_, h2, h3⟩
  have := Int.emod_add_mul_ediv i L.length
  omega
theorem okA_ring {L : List Pt} (h : mayC L = true) (i : Int) : okP (ringP L i) = true ∧ (kd L i = 3 → pairK (kd L (i - 1)) (kd L (i + 1)) = true) := by
  have h0 := may_pos h
  unfold mayC at h
  rw [Bool.and_eq_true, allI_true] at h
  obtain ⟨m, q, hi, hm, hp⟩ := ring_index h0 i
  have := h.2 m _ hp
  unfold okA at this
  rw [Bool.and_eq_true] at this
  refine ⟨this.1, fun h3 => ?_⟩
  have h4 : ((ringP L i).2.2 == 3) = true := by unfold kd at h3; rw [h3]; rfl
  rw [h4, Bool.not_true, Bool.false_or] at this
  have h5 := this.2
  unfold pairB at h5
  rw [hi, show (m : Int) + L.length * q - 1 = ((m : Int) - 1) + L.length * q by omega, show (m : Int) + L.length * q + 1 = ((m : Int) + 1) + L.length * q by omega, kd_shift, kd_shift]
  exact h5
theorem pairK_iff {a b : Int} : pairK a b = true ↔ (a = 1 ∧ b = 3) ∨ (a = 3 ∧ b = 1) := by simp [pairK]
theorem may_cub {L : List Pt} (h : mayC L = true) (i : Int) (h3 : kd L i = 3) : cubK L.length (kd L (i - 1)) (kd L (i + 1)) (kd L (i + 2)) (kd L (i - 2)) = true := by
  have h0 := may_pos h
  have hp := pairK_iff.1 ((okA_ring h i).2 h3)
  have hn : ¬ L.length < 3 := by
    intro hn
    have e : L.length = 1 ∨ L.length = 2 := by omega
    rcases e with e | e
    · have e1 := kd_add L (i - 1)
      have e2 := kd_add L i
      rw [e] at e1 e2
      rw [show i - 1 + ((1 : Nat) : Int) = i by omega] at e1
      rw [show i + ((1 : Nat) : Int) = i + 1 by omega] at e2
      omega
    · have e1 := kd_add L (i - 1)
      rw [e, show i - 1 + ((2 : Nat) : Int) = i + 1 by omega] at e1
      omega
  unfold cubK
  rw [if_neg hn]
  rcases hp with ⟨a, b⟩ | ⟨a, b⟩
  · rw [if_pos (by rw [a, b]; rfl)]
    have h4 := pairK_iff.1 ((okA_ring h (i + 1)).2 b)
    rw [show i + 1 - 1 = i by omega, show i + 1 + 1 = i + 2 by omega] at h4
    have : kd L (i + 2) = 1 := by omega
    rw [this]; rfl
  · rw [if_neg (by rw [a, b]; decide)]
    have h4 := pairK_iff.1 ((okA_ring h (i - 1)).2 a)
    rw [show i - 1 - 1 = i - 2 by omega, show i - 1 + 1 = i by omega] at h4
    have : kd L (i - 2) = 1 := by omega
    rw [a, b, this]; rfl
theorem cub_pair {n : Nat} {a b p q : Int} (h : cubK n a b p q = true) : pairK a b = true := by
  unfold cubK at h
  split at h
  · cases h
  · split at h
    · rename_i h1
      simp at h1
      rw [pairK_iff]; exact .inl h1
    · simp at h
      rw [pairK_iff]; exact .inr ⟨h.1.1, h.1.2⟩
theorem may_same (L : List Pt) : mayC L = rmayC L := by
  rw [Bool.eq_iff_iff]
  constructor
  · intro h
    have hm := h
    unfold mayC at h
    unfold rmayC
    rw [Bool.and_eq_true, allI_true] at h ⊢
    refine ⟨h.1, fun j p hp => ?_⟩
    have h1 := h.2 j p hp
    unfold okA at h1
    unfold okC
    rw [Bool.and_eq_true] at h1 ⊢
    refine ⟨h1.1, ?_⟩
    cases h3 : (p.2.2 == 3)
    · rfl
    · rw [Bool.not_true, Bool.false_or]
      unfold cubB
      exact may_cub hm j (by unfold kd; rw [ringP_nat hp]; simpa using h3)
  · intro h
    unfold rmayC at h
    unfold mayC
    rw [Bool.and_eq_true, allI_true] at h ⊢
    refine ⟨h.1, fun j p hp => ?_⟩
    have h1 := h.2 j p hp
    unfold okC at h1
    unfold okA
    rw [Bool.and_eq_true] at h1 ⊢
    refine ⟨h1.1, ?_⟩
    have h2 := h1.2
    cases h3 : (p.2.2 == 3)
    · rfl
    · rw [h3, Bool.not_true, Bool.false_or] at h2
      rw [Bool.not_true, Bool.false_or]
      unfold cubB at h2
      unfold pairB
      exact cub_pair h2
theorem chk_same (Ls : List (List Pt)) : rchkE Ls = chkE Ls := by
  unfold rchkE chkE
  rw [show rmayC = mayC from funext fun L => (may_same L).symm]
theorem revL_twice (L : List Pt) : revL (revL L) = L := by cases L <;> simp [revL]
theorem rev_twice (Ls : List (List Pt)) : (Ls.map revL).map revL = Ls := by
  rw [List.map_map]
  exact (List.map_congr_left (fun L _ => revL_twice L)).trans (List.map_id' Ls)
theorem cntO_app (a b : List (List Pt)) : cntO (a ++ b) = cntO a + cntO b := by simp [cntO]
theorem join_many {a b : List (List Pt)} (ha : chkE a = 0) (hb : chkE b = 0) : joinE a b = if 256 < a.length + b.length ∨ 4096 < cntO a + cntO b then 100 else 0 := by
  unfold joinE
  rw [if_pos ha, if_pos hb]
  have h1 := (chk_zero ha).2.2
  have h2 := (chk_zero hb).2.2
  unfold chkE
  rw [List.length_append, cntO_app]
  have : (a ++ b).all mayC = true := by
    rw [List.all_eq_true]
    intro L hL
    rcases List.mem_append.1 hL with h | h
    · exact h1 L h
    · exact h2 L h
  rw [if_pos this]

end Go.Proofs.Ytjpffakhhfcgaaa

namespace Go.Proofs.Ytjpffakhhfcgaaa
open Go.ChangeShapes Go.WideShapes Go.ChangeAt Go.RowKit

section
variable {H : Type} {enc : TypeId × Value → H} {P : Program}

theorem args_stay (hl : laidOutB P = true) {W W' : World} (hb : Below W.heap.size W W') :
    ∀ {ts : List TypeId} {vs : List Value} {ds : List (DataW H)} {ps : List MemPlace}, (ts.all fun t => P.readableRec t && decide (t < P.types.size)) = true →
      DataW.TrodAll enc P W 0 (fun _ => true) true ts vs ds ps → (∀ x ∈ ps, x.block < W.heap.size) → DataW.TrodAll enc P W' 0 (fun b => decide (b < W.heap.size)) true ts vs ds ps
  | [], vs, ds, ps, _, h, _ => by
    obtain ⟨rfl, rfl, rfl⟩ := trodAll_nil h
    exact h
  | t :: ts, vs, ds, ps, hr, h, hp => by
    obtain ⟨v, vs', d, ds', p, q, rfl, rfl, rfl, h1, h2⟩ := trodAll_cons h
    rw [List.all_cons, Bool.and_eq_true, Bool.and_eq_true, decide_eq_true_eq] at hr
    exact trodAll_cons_mk (Below.trod hl hr.1.1 hr.1.2 h1 hb fun x hx => hp x (List.mem_append_left _ hx)) (args_stay hl hb hr.2 h2 fun x hx => hp x (List.mem_append_right _ hx))

theorem law_post {f : Func} {s : ChangeSpec} {T : TypeId} {W W' : World} {args : Array Value} {ds : List (DataW H)} {before : List MemPlace} (hl : laidOutB P = true)
    (hr : f.resultTypes = #[T]) (hT : P.underlying T = some .bool) (hrd : (f.params.toList.all fun t => P.readableRec t && decide (t < P.types.size)) = true) (hv : s.vars = [])
    (h1 : (s.fn H ds).results = [.lit (.bool true)]) (h2 : (s.fn H ds).args = ds) (h3 : (s.fn H ds).vars = [])
    (hW : DataW.Whole enc P f.params.toList s.vars false W args.toList ds [] before) (hb : Below W.heap.size W W') :
    s.post enc P f false true false false W args (.bool true) W' := by
  have hlt : ∀ p ∈ before, p.block < W.heap.size := fun p hp => hW.lt p hp
  obtain ⟨p, q, hA, hV, rfl, _, _⟩ := id hW
  rw [hv] at hV
  have hq : q = [] := by simpa [DataW.TrodVars] using hV
  subst hq
  rw [List.append_nil] at hlt
  refine ⟨ds, [], _, [], p, [], hW, ?_, ?_, ?_, ?_, fun h => nomatch h⟩
  · rw [hr, List.append_nil, h1]; exact trodAll_mk1 (shut_bool hT true)
  · rw [List.append_nil, h2]; exact args_stay hl hb hrd hA hlt
  · rw [List.append_nil, h3, hv]; rfl
  · exact World.keptBut_mono (fun x hx => ⟨by simpa using hx, .inr (.inl hx)⟩) (hb.frame (· ∈ p))
end

theorem Try.own : ownKnob Try.prog.godebug = none := by kernel_rfl
theorem Try.laidOut : laidOutB Try.prog = true := by kernel_rfl

end Go.Proofs.Ytjpffakhhfcgaaa

namespace Go.Proofs.Ytjpffakhhfcgaaa
open Go.ChangeShapes Go.WideShapes Go.ChangeAt Go.RowKit

section
variable {H : Type} {enc : TypeId × Value → H} {P : Program}
theorem open_list_int {w : World} {t e : TypeId} {base : Nat} {spare : Nat → Bool} {held : Bool} {r : Reach} {b0 : Nat} {v : Value} {d : DataW H} {p : List MemPlace}
    (hs : P.underlying t = some (.slice e)) (he : P.underlying e = some (.int .i64)) (hC : P.cellsOf e = 1)
    (hv : Value.okWide P w r b0 t v) (h : DataW.Trod enc P w base spare held t v d p) :
    ∃ (A : Option Addr) (n c : Nat) (zs : List Int), v = .slice A n c ∧ zs.length = n ∧ n ≤ c ∧ c ≤ maxLen ∧ Lists w w.heap.size A (intCells zs) ∧ ∀ z ∈ zs, (Lit.int .i64 z).wf = true := by
  obtain ⟨a0, len, cap, rfl⟩ := okWide_slice hs hv
  obtain ⟨fuel, hf⟩ := h
  rcases open_ints hs he hC hf with ⟨hcs, _⟩ | ⟨a, len', cap', zs, hcs, _, hl, hm, hz, _, hcell, hwf⟩
  · simp [Value.cells] at hcs
    obtain ⟨rfl, rfl, rfl⟩ := hcs
    exact ⟨none, 0, 0, [], rfl, rfl, Nat.le_refl _, Nat.zero_le _, Lists.empty _ _ _, fun z hz => by cases hz⟩
  · simp [Value.cells] at hcs
    obtain ⟨rfl, rfl, rfl⟩ := hcs
    have hlen : len ≤ zs.length := by split at hz <;> omega
    have hc : ∀ j u, (intCells (zs.take len))[j]? = some u → w.cell? (a.add j) = some u := fun j u hu => by
      have hj : j < (zs.take len).length := by
        rcases Nat.lt_or_ge j (zs.take len).length with h | h
        · exact h
        · rw [List.getElem?_eq_none (by rw [intCells_len]; exact h)] at hu; cases hu
      rw [intCells_get _ _ hj] at hu
      have hj2 : j < len := by simp at hj; omega
      have hh := hcell j (by omega)
      cases hu
      rw [hh]
      simp [List.getD, hj2]
    refine ⟨some a, len, cap, zs.take len, rfl, by simp; omega, hl, hm, ⟨fun ha => (nomatch ha), fun a' ha => ?_, fun a' ha hx => ?_⟩, fun z hz' => hwf z (List.mem_of_mem_take hz')⟩
    · cases ha; exact hc
    · cases ha
      have h0 : 0 < (intCells (zs.take len)).length := by
        rcases Nat.eq_zero_or_pos (intCells (zs.take len)).length with h | h
        · exact absurd (List.eq_nil_of_length_eq_zero h) hx
        · exact h
      have := hc 0 _ (List.getElem?_eq_getElem h0)
      rcases Nat.lt_or_ge a.block w.heap.size with h | h
      · exact h
      · have e0 : (a.add 0) = a := by simp [Addr.add]
        rw [e0] at this
        unfold World.cell? at this
        rw [Array.getElem?_eq_none h] at this
        cases this
end

end Go.Proofs.Ytjpffakhhfcgaaa

namespace Go.Proofs.Ytjpffakhhfcgaaa
open Go.ChangeShapes Go.WideShapes Go.ChangeAt Go.RowKit

section
variable {H : Type} {enc : TypeId × Value → H} {P : Program}
theorem weights_all {e : TypeId} {d : DataW H} {n : Nat} (hn : n ∈ d.weights P e) : ∀ {l : List (DataW H)}, d ∈ l → n ∈ DataW.weightsAll P e l
  | [], h => (nomatch h)
  | a :: r, h => by
    rw [DataW.weightsAll]
    rcases List.mem_cons.1 h with h | h
    · subst h; exact List.mem_append_left _ hn
    · exact List.mem_append_right _ (weights_all hn h)

theorem cell_lt {w : World} {a : Addr} {v : Value} (h : w.cell? a = some v) : a.block < w.heap.size := by
  rcases Nat.lt_or_ge a.block w.heap.size with h1 | h1
  · exact h1
  · unfold World.cell? at h
    rw [Array.getElem?_eq_none h1] at h
    cases h

/-- A slice of numbers, at the value that a cell holds. -/
theorem open_nums {w : World} {t e : TypeId} {k : IntKind} {base fuel : Nat} {spare : Nat → Bool} {held : Bool} {v : Value} {x : DataW H × List MemPlace}
    (hs : P.underlying t = some (.slice e)) (he : P.underlying e = some (.int k)) (hC : P.cellsOf e = 1) (h : DataW.trod enc P w base spare held fuel t [v] = some x) :
    ∃ (A : Option Addr) (n c : Nat) (zs : List Int), v = .slice A n c ∧ zs.length = n ∧ n ≤ c ∧ c ≤ maxLen ∧ Lists w w.heap.size A (zs.map (Value.int k)) ∧ (∀ z ∈ zs, (Lit.int k z).wf = true) ∧
      ∀ b, (∀ m ∈ x.1.weights P t, m ≤ b) → n * P.bytesOf e ≤ b := by
  rcases open_ints hs he hC h with ⟨hcs, hx⟩ | ⟨a, len, cap, zs, hcs, _, hl, hm, hz, hx, hcell, hwf⟩
  · simp only [List.cons.injEq, and_true] at hcs
    exact ⟨none, 0, 0, [], hcs, rfl, Nat.le_refl _, Nat.zero_le _, Lists.empty _ _ _, (fun z hz => (nomatch hz)), fun b _ => by omega⟩
  · simp only [List.cons.injEq, and_true] at hcs
    have hlen : len ≤ zs.length := by split at hz <;> omega
    have hc : ∀ j u, ((zs.take len).map (Value.int k))[j]? = some u → w.cell? (a.add j) = some u := fun j u hu => by
      rw [List.getElem?_map, Option.map_eq_some_iff] at hu
      obtain ⟨z, hz1, rfl⟩ := hu
      have hj : j < (zs.take len).length := (List.getElem?_eq_some_iff.1 hz1).1
      have hj2 : j < zs.length := by simp at hj; omega
      rw [hcell j hj2]
      simp only [List.getElem?_take, List.length_take] at hz1 hj
      rw [if_pos (by omega)] at hz1
      simp [List.getD, hz1]
    refine ⟨some a, len, cap, zs.take len, hcs, by simp; omega, hl, hm, ⟨fun ha => (nomatch ha), fun a' ha => ?_, fun a' ha hne => ?_⟩, fun z hz' => hwf z (List.mem_of_mem_take hz'), fun b hb => ?_⟩
    · cases ha; exact hc
    · cases ha
      have h0 : 0 < ((zs.take len).map (Value.int k)).length := by
        rcases Nat.eq_zero_or_pos ((zs.take len).map (Value.int k)).length with h | h
        · exact absurd (List.eq_nil_of_length_eq_zero h) hne
        · exact h
      have := cell_lt (hc 0 _ (List.getElem?_eq_getElem h0))
      rwa [addr_add_block] at this
    · subst hx
      have := hb (((lits k (zs.take len) : List (DataW H)).length + (lits k (zs.drop len) : List (DataW H)).length) * P.bytesOf e) (by simp [DataW.weights, hs])
      refine Nat.le_trans (Nat.mul_le_mul_right _ ?_) this
      simp [lits]
      omega

theorem bytes_of_wf {zs : List Int} (h : ∀ z ∈ zs, (Lit.int .u8 z).wf = true) : Bytes8 (zs.map (Value.int .u8)) := fun u hu => by
  obtain ⟨z, hz, rfl⟩ := List.mem_map.1 hu
  have := h z hz
  simp [Lit.wf, IntKind.min, IntKind.max, IntKind.signed, IntKind.bits] at this
  exact ⟨z.toNat, by omega, by congr 1; omega⟩

theorem one_of {w : World} {base fuel : Nat} {spare : Nat → Bool} {held : Bool} {fs : Array Field} {cs : List Value} {ys : List (DataW H × List MemPlace)} (hone : Deep.oneCellFields P fs = true)
    (hg : ∀ (i : Nat) (f : Field), fs[i]? = some f → DataW.trod enc P w base spare held fuel f.type ((cs.drop f.offset).take (P.cellsOf f.type)) = ys[i]?) {j : Nat} {f : Field} {c : Value} {y : DataW H × List MemPlace}
    (hf : fs[j]? = some f) (hc : cs[j]? = some c) (hy : ys[j]? = some y) : DataW.trod enc P w base spare held fuel f.type [c] = some y := by
  have h := hg j f hf
  obtain ⟨h1, h2⟩ := Deep.hone_of hone j f hf
  obtain ⟨hj, hcj⟩ := List.getElem?_eq_some_iff.1 hc
  rw [h1, h2, hy, List.drop_eq_getElem_cons hj, hcj] at h
  exact h
end

end Go.Proofs.Ytjpffakhhfcgaaa

namespace Go.Proofs.Ytjpffakhhfcgaaa
open Go.ChangeShapes Go.WideShapes Go.ChangeAt Go.RowKit

theorem choose_listO {α : Type} {p : Nat → α → Prop} : ∀ {n : Nat}, (∀ i, i < n → ∃ x, p i x) → ∃ L : List α, L.length = n ∧ ∀ i x, L[i]? = some x → p i x
  | 0, _ => ⟨[], rfl, fun i x h => by simp at h⟩
  | n + 1, h => by
    obtain ⟨L, h1, h2⟩ := choose_listO (n := n) fun i hi => h i (by omega)
    obtain ⟨x, hx⟩ := h n (by omega)
    refine ⟨L ++ [x], by simp [h1], fun i y hy => ?_⟩
    rcases Nat.lt_or_ge i n with hi | hi
    · rw [List.getElem?_append_left (by omega)] at hy
      exact h2 i y hy
    · rw [List.getElem?_append_right (by omega)] at hy
      have h3 : i - L.length = 0 := by
        rcases Nat.eq_zero_or_pos (i - L.length) with h | h
        · exact h
        · rw [List.getElem?_eq_none (by simp; omega)] at hy; cases hy
      rw [h3] at hy
      cases hy
      rw [show i = n by omega]
      exact hx

section
variable {H : Type} {enc : TypeId × Value → H} {P : Program}
theorem open_pts {w : World} {t e : TypeId} {f0 f1 f2 : Field} {base fuel : Nat} {spare : Nat → Bool} {held : Bool} {v : Value} {x : DataW H × List MemPlace}
    (ht : P.underlying t = some (.slice e)) (he : P.underlying e = some (.struct #[f0, f1, f2])) (hone : Deep.oneCellFields P #[f0, f1, f2] = true) (hC : P.cellsOf e = 3)
    (i0 : P.underlying f0.type = some (.int .i64)) (i1 : P.underlying f1.type = some (.int .i64)) (i2 : P.underlying f2.type = some (.int .i64)) (h : DataW.trod enc P w base spare held fuel t [v] = some x) :
    ∃ (A : Option Addr) (c : Nat) (L : List Pt), v = .slice A L.length c ∧ Lists w w.heap.size A (ptCells L) ∧ ∀ b, (∀ m ∈ x.1.weights P t, m ≤ b) → L.length * P.bytesOf e ≤ b := by
  rcases Deep.open_slice ht h with ⟨hcs, _⟩ | ⟨a, len, cap, m, n, D, Pl, hcs, hb, hl, hm, hmm, hx, hi⟩
  · simp only [List.cons.injEq, and_true] at hcs
    exact ⟨none, 0, [], hcs, Lists.empty _ _ _, fun b _ => by simp⟩
  · simp only [List.cons.injEq, and_true] at hcs
    have hlm : len ≤ m := by split at hmm <;> omega
    obtain ⟨L, hLl, hL⟩ := choose_listO (n := len) (p := fun i (q : Pt) => w.cell? (a.add (i * 3)) = some (.int .i64 q.1) ∧ w.cell? (a.add (i * 3 + 1)) = some (.int .i64 q.2.1) ∧ w.cell? (a.add (i * 3 + 2)) = some (.int .i64 q.2.2)) fun i hil => by
      obtain ⟨cs', hc, ht'⟩ := hi i (by omega)
      rw [hC] at hc
      obtain ⟨ys, n', _, hy, _, hyl, hg⟩ := DataW.trod_struct he ht'
      obtain ⟨_, hcl, hat⟩ := World.cells?_some hc
      match cs', hcl with
      | [c0, c1, c2], _ =>
        match ys, hyl with
        | [y0, y1, y2], _ =>
          have k0 := one_of hone hg (j := 0) rfl rfl rfl
          have k1 := one_of hone hg (j := 1) rfl rfl rfl
          have k2 := one_of hone hg (j := 2) rfl rfl rfl
          obtain ⟨z0, e0, _, _⟩ := DataW.trod_int i0 k0
          obtain ⟨z1, e1, _, _⟩ := DataW.trod_int i1 k1
          obtain ⟨z2, e2, _, _⟩ := DataW.trod_int i2 k2
          simp only [List.cons.injEq, and_true] at e0 e1 e2
          subst e0 e1 e2
          have a0 : w.cell? (a.add (i * 3)) = some (.int .i64 z0) := by have := hat 0 (by omega); rw [Go.Deep.add_add] at this; exact this
          have a1 : w.cell? (a.add (i * 3 + 1)) = some (.int .i64 z1) := by have := hat 1 (by omega); rw [Go.Deep.add_add] at this; exact this
          have a2 : w.cell? (a.add (i * 3 + 2)) = some (.int .i64 z2) := by have := hat 2 (by omega); rw [Go.Deep.add_add] at this; exact this
          exact ⟨(z0, z1, z2), a0, a1, a2⟩
    have hcell : ∀ j u, (ptCells L)[j]? = some u → w.cell? (a.add j) = some u := fun j u hu => by
      have hj : j < L.length * 3 := by
        rcases Nat.lt_or_ge j (L.length * 3) with h | h
        · exact h
        · rw [List.getElem?_eq_none (by rw [ptCells_len]; exact h)] at hu; cases hu
      obtain ⟨q, hq⟩ : ∃ q, L[j / 3]? = some q := ⟨L[j / 3]'(by omega), List.getElem?_eq_getElem _⟩
      obtain ⟨h1, h2, h3⟩ := ptCells_at L (j / 3) q hq
      obtain ⟨h4, h5, h6⟩ := hL _ _ hq
      rcases (show j % 3 = 0 ∨ j % 3 = 1 ∨ j % 3 = 2 by omega) with h | h | h
      · rw [show j / 3 * 3 = j by omega] at h1 h4
        rw [h1] at hu; cases hu; exact h4
      · rw [show j / 3 * 3 + 1 = j by omega] at h2 h5
        rw [h2] at hu; cases hu; exact h5
      · rw [show j / 3 * 3 + 2 = j by omega] at h3 h6
        rw [h3] at hu; cases hu; exact h6
    refine ⟨some a, cap, L, by rw [hLl]; exact hcs, ⟨fun ha => (nomatch ha), fun a' ha => ?_, fun a' ha hne => ?_⟩, fun b hbw => ?_⟩
    · cases ha; exact hcell
    · cases ha
      have h0 : 0 < (ptCells L).length := by
        rcases Nat.eq_zero_or_pos (ptCells L).length with h | h
        · exact absurd (List.eq_nil_of_length_eq_zero h) hne
        · exact h
      have := cell_lt (hcell 0 _ (List.getElem?_eq_getElem h0))
      rwa [addr_add_block] at this
    · subst hx
      refine Nat.le_trans ?_ (hbw _ (by simp only [DataW.weights, ht]; exact List.mem_cons_self))
      refine Nat.mul_le_mul_right _ ?_
      rw [hLl]
      simp

theorem open_outl {w : World} {t u e : TypeId} {f0 f1 f2 : Field} {base : Nat} {spare : Nat → Bool} {held : Bool} {r : Reach} {b0 : Nat} {v : Value} {d : DataW H} {p : List MemPlace}
    (ht : P.underlying t = some (.slice u)) (hu : P.underlying u = some (.slice e)) (hcu : P.cellsOf u = 1) (he : P.underlying e = some (.struct #[f0, f1, f2])) (hone : Deep.oneCellFields P #[f0, f1, f2] = true) (hC : P.cellsOf e = 3) (hb : P.bytesOf e = 24)
    (i0 : P.underlying f0.type = some (.int .i64)) (i1 : P.underlying f1.type = some (.int .i64)) (i2 : P.underlying f2.type = some (.int .i64))
    (hv : Value.okWide P w r b0 t v) (h : DataW.Trod enc P w base spare held t v d p) (hz : ∀ m ∈ d.weights P t, m ≤ reachBytes) :
    ∃ (A : Option Addr) (c : Nat) (Ls : List (List Pt)), v = .slice A Ls.length c ∧ OutAt w w.heap.size A Ls ∧ (∀ L ∈ Ls, L.length ≤ 17592186044416) ∧ Ls.length ≤ 9223372036854775807 := by
  obtain ⟨a0, len, cap, rfl⟩ := okWide_slice ht hv
  obtain ⟨fuel, hf⟩ := h
  rcases Deep.open_slice ht hf with ⟨hcs, _⟩ | ⟨a, len', cap', m, n, D, Pl, hcs, hbb, hl, hm, hmm, hx, hi⟩
  · simp [Value.cells] at hcs
    obtain ⟨rfl, rfl, rfl⟩ := hcs
    exact ⟨none, 0, [], rfl, ⟨fun i L h => by simp at h⟩, fun L h => by simp at h, by simp⟩
  · simp [Value.cells] at hcs
    obtain ⟨rfl, rfl, rfl⟩ := hcs
    unfold maxLen at hm
    have hlm : len ≤ m := by split at hmm <;> omega
    obtain ⟨Ls, hLl, hLs⟩ := choose_listO (n := len) (p := fun i (L : List Pt) => (∃ Ai ci, w.cell? (a.add i) = some (.slice Ai L.length ci) ∧ Lists w w.heap.size Ai (ptCells L)) ∧ L.length ≤ 17592186044416) fun i hil => by
      obtain ⟨cs', hc, ht'⟩ := hi i (by omega)
      rw [hcu, Nat.mul_one] at hc
      obtain ⟨_, hcl, hat⟩ := World.cells?_some hc
      match cs', hcl with
      | [c0], _ =>
        obtain ⟨Ai, ci, L, rfl, hL, hw⟩ := open_pts hu he hone hC i0 i1 i2 ht'
        have a0 : w.cell? (a.add i) = some (.slice Ai L.length ci) := by have := hat 0 (by omega); rw [Go.Deep.add_add] at this; exact this
        refine ⟨L, ⟨Ai, ci, a0, hL⟩, ?_⟩
        have := hw reachBytes fun m hm => hz m (by
          simp only [Prod.mk.injEq] at hx
          rw [hx.1]
          simp only [DataW.weights, ht]
          exact List.mem_cons_of_mem _ (List.mem_append_left _ (weights_all hm (List.mem_map.2 ⟨i, List.mem_range.2 hil, rfl⟩))))
        rw [hb] at this
        have hr := reachBytes_lt
        omega
    refine ⟨some a, cap, Ls, by rw [hLl], ⟨fun i L hL => ?_⟩, fun L hL => ?_, by omega⟩
    · obtain ⟨⟨Ai, ci, h1, h2⟩, _⟩ := hLs i L hL
      have hlt := cell_lt h1
      obtain ⟨b, o, s⟩ := a
      have hs : s = none := by
        obtain ⟨L0, hL0⟩ := at_some (L := Ls) (k := 0) (by have := (List.getElem?_eq_some_iff.1 hL).1; omega)
        obtain ⟨⟨_, _, h4, _⟩, _⟩ := hLs 0 L0 hL0
        simpa [Addr.add] using World.cell?_spot h4
      subst hs
      rw [addr_plain] at h1 hlt
      exact ⟨b, o, Ai, ci, rfl, hlt, h1, h2⟩
    · obtain ⟨i, hi⟩ := List.mem_iff_getElem?.1 hL
      exact (hLs i L hi).2
end

end Go.Proofs.Ytjpffakhhfcgaaa

namespace Go.Proofs.Ytjpffakhhfcgaaa
open Go Go.RowKit

def GaveO (n : Nat) (Ls : List (List Pt)) (w : World) (e : Ending) (w' : World) : Prop := ∃ A c, e = .returned (.slice A n c) ∧ OutAt w' w'.heap.size A Ls ∧ Below w.heap.size w w'
theorem gave {n : Nat} {Ls : List (List Pt)} {w : World} {e : Ending} {w' : World} (hn : Ls.length = n) (h : MadeOut w Ls e w') : GaveO n Ls w e w' := by
  obtain ⟨v, h1, h2, h3⟩ := h
  obtain ⟨A, c, rfl, o⟩ := h2.out
  exact ⟨A, c, by rw [← hn]; exact h1, o, h3⟩
theorem sm_of {Ls : List (List Pt)} (h : bigB Ls = false) : Sm2 Ls := by
  obtain ⟨h1, h2⟩ := big_no h
  refine ⟨by omega, fun L hL => ?_⟩
  have : L.length ≤ cntO Ls := by
    obtain ⟨i, hi⟩ := List.mem_iff_getElem?.1 hL
    have e1 := cntO_take Ls (i + 1)
    rw [take_snoc1 hi, cntO_snoc] at e1
    omega
  omega

end Go.Proofs.Ytjpffakhhfcgaaa

namespace Go.Proofs.Ytjpffakhhfcgaaa
open Go.ChangeShapes Go.WideShapes Go.ChangeAt Go.RowKit Go.Deep

section
variable {H : Type} {enc : TypeId × Value → H} {P : Program}
theorem open_four {w : World} {t : TypeId} {f0 f1 f2 f3 : Field} {base : Nat} {spare : Nat → Bool} {held : Bool} {r : Reach} {b0 : Nat} {v : Value} {d : DataW H} {p : List MemPlace}
    (hs : P.underlying t = some (.struct #[f0, f1, f2, f3])) (hone : oneCellFields P #[f0, f1, f2, f3] = true) (hC : P.cellsOf t = 4)
    (u0 : P.underlying f0.type = some (.int .i64)) (u1 : P.underlying f1.type = some (.int .i64)) (u2 : P.underlying f2.type = some (.int .i64)) (u3 : P.underlying f3.type = some (.int .i64))
    (hv : Value.okWide P w r b0 t v) (h : DataW.Trod enc P w base spare held t v d p) :
    ∃ a b c e : Int, v = .agg #[.int .i64 a, .int .i64 b, .int .i64 c, .int .i64 e] ∧ (Lit.int .i64 a).wf = true ∧ (Lit.int .i64 b).wf = true ∧ (Lit.int .i64 c).wf = true ∧ (Lit.int .i64 e).wf = true := by
  obtain ⟨v0, v1, v2, v3, y0, y1, y2, y3, n, rfl, _, _, h0, h1, h2, h3⟩ := Joins.open_agg4 hs hone hC hv h
  obtain ⟨a, e0, _, wa⟩ := DataW.trod_int u0 h0
  obtain ⟨b, e1, _, wb⟩ := DataW.trod_int u1 h1
  obtain ⟨c, e2, _, wc⟩ := DataW.trod_int u2 h2
  obtain ⟨e, e3, _, we⟩ := DataW.trod_int u3 h3
  simp at e0 e1 e2 e3
  subst e0 e1 e2 e3
  exact ⟨a, b, c, e, rfl, wa, wb, wc, we⟩
end

theorem Try.cellsM : Try.prog.cellsOf 52 = 4 := by kernel_rfl
theorem Try.cellsB : Try.prog.cellsOf 28 = 4 := by kernel_rfl

end Go.Proofs.Ytjpffakhhfcgaaa

namespace Go.Proofs.Ytjpffakhhfcgaaa
open Go Go.RowKit

def mm (L : List Pt) (a : Int) : List Pt := if kd L (a - 1) == 2 && kd L a == 2 then [midP (ringP L (a - 1)) (ringP L a)] else []
theorem stepX_mm (L : List Pt) (a : Int) : stepX L a = mm L a ++ [ringP L a] := rfl
theorem rm_mm {L : List Pt} {n k : Nat} (h : k + 1 < n) : rm L n k = mm L ((st L : Int) + k + 1) := by
  unfold rm mm
  rw [show (st L : Int) + k + 1 - 1 = (st L : Int) + k by omega, show decide (k + 1 = n) = false by simp; omega]
  simp
theorem ex_shift (L : List Pt) : ∀ k, k < L.length → exK L (k + 1) = mm L (st L) ++ rexK L k ++ [ringP L ((st L : Int) + k)]
  | 0, _ => by
    rw [exK_succ, stepX_mm]
    simp [exK, rexK]
  | k + 1, h => by
    rw [exK_succ, ex_shift L k (by omega), rexK_succ, rm_mm h, stepX_mm, show ((st L : Int) + ((k + 1 : Nat) : Int)) = (st L : Int) + k + 1 by omega]
    simp
theorem st_on {L : List Pt} (h : hasOn L = true) : kd L (st L : Int) = 1 := by
  unfold st
  rw [if_pos h]
  have hlt : L.findIdx isOn < L.length := List.findIdx_lt_length.2 (by simpa [hasOn] using h)
  have := List.findIdx_getElem (w := hlt)
  unfold kd
  rw [ringP_nat (List.getElem?_eq_getElem hlt)]
  simpa [isOn] using this
theorem all_two {L : List Pt} (h : mayC L = true) (hO : hasOn L = false) (i : Int) : kd L i = 2 := by
  have hno : ∀ j : Int, kd L j ≠ 1 := fun j e => by
    obtain ⟨m, _, _, hp⟩ := ring_some (may_pos h) j
    have : hasOn L = true := List.any_eq_true.2 ⟨_, List.mem_of_getElem? hp, by unfold kd at e; simp [isOn, e]⟩
    rw [hO] at this; cases this
  obtain ⟨h1, h2⟩ := okA_ring h i
  have h3 : kd L i ≠ 3 := fun e => by
    rcases pairK_iff.1 (h2 e) with ⟨a, _⟩ | ⟨_, a⟩
    · exact hno _ a
    · exact hno _ a
  unfold okP at h1
  simp only [Bool.and_eq_true, decide_eq_true_eq] at h1
  have h4 := hno i
  have h5 : 1 ≤ kd L i ∧ kd L i ≤ 3 := ⟨h1.1.2, h1.2⟩
  omega
theorem ex_rex {L : List Pt} (h : mayC L = true) : exE L = rexE L := by
  obtain ⟨m, hm⟩ : ∃ m, L.length = m + 1 := ⟨L.length - 1, by have := may_pos h; omega⟩
  unfold exE rexE
  rw [hm, ex_shift L m (by omega), rexK_succ, hm]
  have e1 : (st L : Int) + m + 1 = (st L : Int) + L.length := by rw [hm]; omega
  cases hO : hasOn L
  · have h2 := all_two h hO
    have hs : st L = 0 := by unfold st; rw [hO]; rfl
    have a : mm L (st L : Int) = preR L := by
      unfold mm preR
      rw [h2, h2, hO, hs, show (((0 : Nat) : Int) - 1) = (((L.length : Int) - 1) - L.length) by omega, ringP_sub]
      rfl
    have b : rm L (m + 1) m = [] := by
      unfold rm
      rw [h2, h2, h2]
      simp
    rw [a, b]
    simp
  · have h1 := st_on hO
    have a : mm L (st L : Int) = preR L := by
      unfold mm preR
      rw [h1, hO]
      simp
    have b : rm L (m + 1) m = [] := by
      unfold rm
      rw [e1, kd_add, h1]
      simp
    rw [a, b]
    simp

/-- No two PointQuads follow one another. -/
def na : List Pt → Bool
  | p :: q :: r => !(p.2.2 == 2 && q.2.2 == 2) && na (q :: r)
  | _ => true
theorem na_append (x : Pt) (C : List Pt) : ∀ A : List Pt, na (A ++ [x]) = true → na (x :: C) = true → na (A ++ x :: C) = true
  | [], _, h => h
  | [p], h1, h2 => by
    simp only [List.singleton_append, na, Bool.and_true] at h1 ⊢
    rw [h1, h2]; rfl
  | p :: q :: A, h1, h2 => by
    simp only [List.cons_append, na, Bool.and_eq_true] at h1 ⊢
    exact ⟨h1.1, na_append x C (q :: A) h1.2 h2⟩
theorem na_at : ∀ (A : List Pt) (i : Nat) (p q : Pt), na A = true → A[i]? = some p → A[i + 1]? = some q → ¬ (p.2.2 = 2 ∧ q.2.2 = 2)
  | [], i, p, q, _, h, _ => by simp at h
  | [x], i, p, q, _, _, h => by simp at h
  | x :: y :: r, 0, p, q, h, hp, hq => by
    simp at hp hq
    subst hp hq
    simp only [na, Bool.and_eq_true] at h
    intro e
    rw [e.1, e.2] at h
    exact absurd h.1 (by decide)
  | x :: y :: r, i + 1, p, q, h, hp, hq => by
    simp only [na, Bool.and_eq_true] at h
    exact na_at (y :: r) i p q h.2 (by simpa using hp) (by simpa using hq)
def hd (L : List Pt) (a : Int) : Pt := if kd L (a - 1) == 2 && kd L a == 2 then midP (ringP L (a - 1)) (ringP L a) else ringP L a
theorem hd_add (L : List Pt) (a : Int) : hd L (a + L.length) = hd L a := by
  unfold hd
  rw [show a + (L.length : Int) - 1 = (a - 1) + L.length by omega, kd_add, kd_add, ringP_add, ringP_add]
theorem stepX_cases (L : List Pt) (a : Int) : (stepX L a = [hd L a] ∧ hd L a = ringP L a ∧ ¬ (kd L (a - 1) = 2 ∧ kd L a = 2)) ∨ (stepX L a = [hd L a, ringP L a] ∧ (hd L a).2.2 = 1 ∧ kd L (a - 1) = 2 ∧ kd L a = 2) := by
  unfold stepX hd
  by_cases h : kd L (a - 1) = 2 ∧ kd L a = 2
  · right
    have : (kd L (a - 1) == 2 && kd L a == 2) = true := by rw [h.1, h.2]; rfl
    rw [if_pos this, if_pos this]
    exact ⟨rfl, rfl, h⟩
  · left
    have : ¬ (kd L (a - 1) == 2 && kd L a == 2) = true := by simpa using h
    rw [if_neg this, if_neg this]
    exact ⟨rfl, rfl, h⟩
theorem ex_na (L : List Pt) : ∀ k, na (exK L k ++ [hd L ((st L : Int) + k)]) = true
  | 0 => by simp [exK, na]
  | k + 1 => by
    have ih := ex_na L k
    have hn : ((st L : Int) + ((k + 1 : Nat) : Int)) = (st L : Int) + k + 1 := by omega
    rw [exK_succ, hn]
    have next : ¬ (kd L ((st L : Int) + k) = 2 ∧ (hd L ((st L : Int) + k + 1)).2.2 = 2) := by
      rintro ⟨a, b⟩
      rcases stepX_cases L ((st L : Int) + k + 1) with ⟨_, h2, h3⟩ | ⟨_, h2, _⟩
      · rw [show (st L : Int) + k + 1 - 1 = (st L : Int) + k by omega] at h3
        rw [h2] at b
        exact h3 ⟨a, b⟩
      · omega
    have key : ∀ (p q : Pt), ¬ (p.2.2 = 2 ∧ q.2.2 = 2) → (!(p.2.2 == 2 && q.2.2 == 2)) = true := fun p q h => by
      cases h1 : (p.2.2 == 2) <;> cases h2 : (q.2.2 == 2) <;> first | rfl | exact absurd ⟨by simpa using h1, by simpa using h2⟩ h
    rcases stepX_cases L ((st L : Int) + k) with ⟨h1, h2, h3⟩ | ⟨h1, h2, h3, h4⟩
    · rw [h1, List.append_assoc]
      refine na_append _ _ _ ih ?_
      show (!((hd L ((st L : Int) + k)).2.2 == 2 && (hd L ((st L : Int) + k + 1)).2.2 == 2) && true) = true
      rw [Bool.and_true]
      exact key _ _ (by rw [h2]; exact next)
    · rw [h1, List.append_assoc]
      refine na_append _ _ _ ih ?_
      show (!((hd L ((st L : Int) + k)).2.2 == 2 && (ringP L ((st L : Int) + k)).2.2 == 2) && (!((ringP L ((st L : Int) + k)).2.2 == 2 && (hd L ((st L : Int) + k + 1)).2.2 == 2) && true)) = true
      rw [Bool.and_true, key _ _ (by rintro ⟨a, _⟩; omega), key _ _ next]
      rfl
theorem ex_head {L : List Pt} (h : mayC L = true) : (exE L)[0]? = some (hd L (st L)) ∧ (hd L (st L)).2.2 = 1 := by
  obtain ⟨m, hm⟩ : ∃ m, L.length = m + 1 := ⟨L.length - 1, by have := may_pos h; omega⟩
  constructor
  · have : ∀ k, (exK L (k + 1))[0]? = some (hd L (st L)) := fun k => by
      induction k with
      | zero =>
        rw [exK_succ]
        rcases stepX_cases L (st L : Int) with ⟨h1, _⟩ | ⟨h1, _⟩
        · simp [exK, h1]
        · simp [exK, h1]
      | succ k ih =>
        rw [exK_succ, List.getElem?_append_left]
        · exact ih
        · exact (List.getElem?_eq_some_iff.1 ih).1
    unfold exE
    rw [hm]; exact this m
  · cases hO : hasOn L
    · rcases stepX_cases L (st L : Int) with ⟨_, _, h3⟩ | ⟨_, h2, _⟩
      · exact absurd ⟨all_two h hO _, all_two h hO _⟩ h3
      · exact h2
    · have h1 := st_on hO
      rcases stepX_cases L (st L : Int) with ⟨_, h2, _⟩ | ⟨_, h2, _⟩
      · rw [h2]; exact h1
      · exact h2
theorem ex_pos {L : List Pt} (h : mayC L = true) : 0 < (exE L).length := (List.getElem?_eq_some_iff.1 (ex_head h).1).1
theorem ex_apart {L : List Pt} (h : mayC L = true) (k : Nat) (hk : k < (exE L).length) : ¬ (kd (exE L) ((k : Int) - 1) = 2 ∧ kd (exE L) k = 2) := by
  have hna := ex_na L L.length
  rw [hd_add] at hna
  obtain ⟨h0, h1⟩ := ex_head h
  change na (exE L ++ [hd L (st L)]) = true at hna
  generalize exE L = E at *
  obtain ⟨p, hp⟩ := at_some hk
  cases k with
  | zero =>
    rw [h0] at hp; cases hp
    intro e
    have : kd E ((0 : Nat) : Int) = 1 := by unfold kd; rw [ringP_nat h0]; exact h1
    omega
  | succ k =>
    obtain ⟨q, hq⟩ := at_some (L := E) (k := k) (by omega)
    have := na_at _ k q p hna (by rw [List.getElem?_append_left (by omega)]; exact hq) (by rw [List.getElem?_append_left (by omega)]; exact hp)
    rw [show (((k + 1 : Nat) : Int) - 1) = (k : Nat) by omega]
    unfold kd
    rw [ringP_nat hq, ringP_nat hp]
    exact this
theorem ex_stays {L : List Pt} (h : mayC L = true) : exE (exE L) = exE L := by
  have hap := ex_apart h
  obtain ⟨h0, h1⟩ := ex_head h
  generalize exE L = E at *
  have hst : st E = 0 := by
    obtain ⟨a, b⟩ := on_at h0 (by simp [isOn, h1]) (fun j q hj => absurd hj (Nat.not_lt_zero _))
    unfold st; rw [if_pos a, b]
  have key : ∀ k, k ≤ E.length → exK E k = E.take k := fun k => by
    induction k with
    | zero => intro _; simp [exK]
    | succ k ih =>
      intro hk
      obtain ⟨p, hp⟩ := at_some (L := E) (k := k) (by omega)
      rw [exK_succ, ih (by omega), hst, show (((0 : Nat) : Int) + (k : Int)) = (k : Int) by omega, take_snoc1 hp]
      rcases stepX_cases E (k : Int) with ⟨h2, h3, _⟩ | ⟨_, _, h3, h4⟩
      · rw [h2, h3, ringP_nat hp]
      · exact absurd ⟨h3, h4⟩ (hap k (by omega))
  unfold exE
  rw [key _ (Nat.le_refl _), List.take_length]

end Go.Proofs.Ytjpffakhhfcgaaa
