/- Part 3 of the proof: FlB, Fork, Mix, FlC. -/
import Derived.Test.YtlacjifnniahhaaCFl1

namespace Go.Proofs.Ytlacjifnniahhaa
open Go Go.RowKit
set_option linter.unusedVariables false
set_option linter.unusedSimpArgs false

def fitZ (x : Int) : Bool := decide (-1048576 ≤ x) && decide (x ≤ 1048576)
def ltF (d : Dt) : Bool := fitZ d.1 && fitZ d.2
theorem fitZ_in {x : Int} (h : fitZ x = true) : -1048576 ≤ x ∧ x ≤ 1048576 := by unfold fitZ at h; simpa using h
theorem fitZ_out {x : Int} (h : fitZ x = false) : x < -1048576 ∨ 1048576 < x := by unfold fitZ at h; simp at h; omega
theorem ltF_in {d : Dt} (h : ltF d = true) : (-1048576 ≤ d.1 ∧ d.1 ≤ 1048576) ∧ -1048576 ≤ d.2 ∧ d.2 ≤ 1048576 := by
  unfold ltF at h
  rw [Bool.and_eq_true] at h
  exact ⟨fitZ_in h.1, fitZ_in h.2⟩
/-- What May says. -/
def mayF (Ls : List (List Dt)) : Int := if 65536 < cntF Ls then 3 else if Ls.flatten.all ltF then 0 else 10
theorem mayF_ok {Ls : List (List Dt)} (h : mayF Ls = 0) : cntF Ls ≤ 65536 ∧ Ls.flatten.all ltF = true := by
  unfold mayF at h
  split at h
  · omega
  · split at h
    · exact ⟨by omega, by assumption⟩
    · omega
/-- Small enough to be looked at. -/
def SmF {α : Type} (Ls : List (List α)) : Prop := Ls.length ≤ 100000 ∧ cntF Ls ≤ 100000
theorem SmF.len {α : Type} {Ls : List (List α)} (h : SmF Ls) {L : List α} (hL : L ∈ Ls) : L.length ≤ 100000 := Nat.le_trans (cntF_mem hL) h.2
/-- The dot behind one, in the ring. -/
def nxD (L : List Dt) (k : Nat) : Dt := L.getD ((k + 1) % L.length) (0, 0)
theorem nxD_at {L : List Dt} {k : Nat} (h : k < L.length) : L[(k + 1) % L.length]? = some (nxD L k) := by
  have hm : (k + 1) % L.length < L.length := Nat.mod_lt _ (by omega)
  unfold nxD
  rw [List.getD_eq_getElem?_getD, List.getElem?_eq_getElem hm]
  rfl
/-- The lines of the first n dots of a ring. -/
def lnD (L : List Dt) (n : Nat) : List (Dt × Dt) := (List.range n).map fun k => (L.getD k (0, 0), nxD L k)
def lnL (L : List Dt) : List (Dt × Dt) := lnD L L.length
def lnA (Ls : List (List Dt)) : List (Dt × Dt) := Ls.flatMap lnL
theorem lnD_succ (L : List Dt) (n : Nat) : lnD L (n + 1) = lnD L n ++ [(L.getD n (0, 0), nxD L n)] := by simp [lnD, List.range_succ]
theorem lnD_len (L : List Dt) (n : Nat) : (lnD L n).length = n := by simp [lnD]
theorem lnL_len (L : List Dt) : (lnL L).length = L.length := lnD_len L _
theorem lnA_take {Ls : List (List Dt)} {k : Nat} {L : List Dt} (h : Ls[k]? = some L) : lnA (Ls.take (k + 1)) = lnA (Ls.take k) ++ lnL L := by
  unfold lnA
  rw [take_snocF h]; simp
theorem lnA_len : ∀ Ls : List (List Dt), (lnA Ls).length = cntF Ls
  | [] => rfl
  | L :: Ls => by
    have := lnA_len Ls
    unfold lnA at this ⊢
    rw [List.flatMap_cons, List.length_append, lnL_len, this, cntF_cons]
theorem lnD_pre (L : List Dt) {n : Nat} (h : n ≤ L.length) : lnD L n <+: lnL L := by
  obtain ⟨d, hd⟩ : ∃ d, L.length = n + d := ⟨L.length - n, by omega⟩
  unfold lnL lnD
  rw [hd, List.range_add, List.map_append]
  exact List.prefix_append _ _
theorem lnA_pre {Ls : List (List Dt)} {k j : Nat} {L : List Dt} (h : Ls[k]? = some L) (hj : j ≤ L.length) : lnA (Ls.take k) ++ lnD L j <+: lnA Ls := by
  have e : Ls = Ls.take k ++ L :: Ls.drop (k + 1) := by
    obtain ⟨hk, he⟩ := List.getElem?_eq_some_iff.1 h
    rw [← he, ← List.drop_eq_getElem_cons hk, List.take_append_drop]
  obtain ⟨t, ht⟩ := lnD_pre L hj
  refine ⟨t ++ lnA (Ls.drop (k + 1)), ?_⟩
  conv => rhs; rw [e]
  unfold lnA
  rw [List.flatMap_append, List.flatMap_cons, ← ht]
  simp
def crs (p : Dt × Dt) : Int := p.1.1 * p.2.2 - p.2.1 * p.1.2
def arF (X : List (Dt × Dt)) : Int := (X.map crs).sum
theorem arF_snoc (X : List (Dt × Dt)) (p : Dt × Dt) : arF (X ++ [p]) = arF X + crs p := by simp [arF]
theorem mul_lim {x y : Int} (hx : -1048576 ≤ x ∧ x ≤ 1048576) (hy : -1048576 ≤ y ∧ y ≤ 1048576) : -1099511627776 ≤ x * y ∧ x * y ≤ 1099511627776 := by
  have h1 : x.natAbs ≤ 1048576 := by omega
  have h2 : y.natAbs ≤ 1048576 := by omega
  have h3 := Nat.mul_le_mul h1 h2
  rw [← Int.natAbs_mul] at h3
  omega
theorem crs_lim {p : Dt × Dt} (h1 : ltF p.1 = true) (h2 : ltF p.2 = true) : (-1099511627776 ≤ p.1.1 * p.2.2 ∧ p.1.1 * p.2.2 ≤ 1099511627776) ∧ (-1099511627776 ≤ p.2.1 * p.1.2 ∧ p.2.1 * p.1.2 ≤ 1099511627776) ∧ -2199023255552 ≤ crs p ∧ crs p ≤ 2199023255552 := by
  have a := ltF_in h1
  have b := ltF_in h2
  have m1 := mul_lim a.1 b.2
  have m2 := mul_lim b.1 a.2
  refine ⟨m1, m2, ?_⟩
  unfold crs
  omega
def ltP (p : Dt × Dt) : Bool := ltF p.1 && ltF p.2
theorem ltF_zero : ltF (0, 0) = true := by decide
theorem getD_all {L : List Dt} (h : L.all ltF = true) (k : Nat) : ltF (L.getD k (0, 0)) = true := by
  rw [List.getD_eq_getElem?_getD]
  rcases Nat.lt_or_ge k L.length with hk | hk
  · rw [List.getElem?_eq_getElem hk]
    exact List.all_eq_true.1 h _ (List.getElem_mem hk)
  · rw [List.getElem?_eq_none hk]; exact ltF_zero
theorem lnD_all {L : List Dt} (h : L.all ltF = true) (n : Nat) : (lnD L n).all ltP = true := by
  rw [List.all_eq_true]
  intro p hp
  unfold lnD at hp
  obtain ⟨k, _, rfl⟩ := List.mem_map.1 hp
  unfold ltP nxD
  rw [getD_all h, getD_all h]; rfl
theorem lnA_all {Ls : List (List Dt)} (h : Ls.flatten.all ltF = true) : (lnA Ls).all ltP = true := by
  rw [List.all_eq_true]
  intro p hp
  unfold lnA at hp
  obtain ⟨L, hL, hp⟩ := List.mem_flatMap.1 hp
  have hl : L.all ltF = true := by
    rw [List.all_eq_true] at h ⊢
    exact fun d hd => h d (List.mem_flatten.2 ⟨L, hL, hd⟩)
  exact List.all_eq_true.1 (lnD_all hl _) p hp
theorem arF_lim : ∀ (X : List (Dt × Dt)), X.all ltP = true → -2199023255552 * (X.length : Int) ≤ arF X ∧ arF X ≤ 2199023255552 * (X.length : Int)
  | [], _ => by simp [arF]
  | p :: X, h => by
    rw [List.all_cons, Bool.and_eq_true] at h
    have ih := arF_lim X h.2
    have hp := h.1
    unfold ltP at hp
    rw [Bool.and_eq_true] at hp
    have := (crs_lim hp.1 hp.2).2.2
    unfold arF at ih ⊢
    rw [List.map_cons, List.sum_cons, List.length_cons]
    push_cast
    omega
end Go.Proofs.Ytlacjifnniahhaa

namespace Go.Proofs.Ytlacjifnniahhaa
open Go Go.RowKit

section
variable {P : Program} {ops : Array Oper} {Q : Exit → Act → World → Prop} {md : Region.Mode} {I : World → Prop}

/-- What only reads may be taken as soon as it is ready; of what changes the world, whatever is ready. -/
inductive PlanF (P : Program) (md : Region.Mode) (ops : Array Oper) (Q : Exit → Act → World → Prop) (I : World → Prop) : Nat → Array Bool → Act → World → Prop
  | done {n : Nat} {listed : Array Bool} {a : Act} {w : World} (hr : Region.ready md ops listed = []) (h : Q .normal a w) : PlanF P md ops Q I n listed a w
  | take {n : Nat} {listed : Array Bool} {a : Act} {w : World} (i : Nat) (o : Oper) (v : Value) (hi : ops[i]? = some o) (hf : Region.free md ops listed i = true) (hr : i ∈ Region.ready md ops listed)
      (hs : StepI P ops I o v a) (h : PlanF P md ops Q I n (listed.setIfInBounds i true) (a.put o.dst v) w) : PlanF P md ops Q I (n + 1) listed a w
  | fork {n : Nat} {listed : Array Bool} {a : Act} {w : World} (o : Nat → Oper) (K : Nat → Value → World → Prop) (hne : Region.ready md ops listed ≠ []) (hi : ∀ i, i ∈ Region.ready md ops listed → ops[i]? = some (o i))
      (hs : ∀ i, i ∈ Region.ready md ops listed → StepO P ops (o i) a w (K i)) (hI : ∀ i, i ∈ Region.ready md ops listed → ∀ v w', K i v w' → I w')
      (h : ∀ i, i ∈ Region.ready md ops listed → ∀ v w', K i v w' → PlanF P md ops Q I n (listed.setIfInBounds i true) (a.put (o i).dst v) w') : PlanF P md ops Q I (n + 1) listed a w

theorem PlanF.first (hns : ∀ (i : Nat) (o : Oper) cs b, ops[i]? = some o → o.op ≠ .select cs b) {n : Nat} {listed : Array Bool} {a : Act} {w : World} (h : PlanF P md ops Q I n listed a w) : ∀ j, j ∈ Region.ready md ops listed →
    ∃ m oj, n = m + 1 ∧ ops[j]? = some oj ∧ ((∃ u, StepI P ops I oj u a ∧ PlanF P md ops Q I m (listed.setIfInBounds j true) (a.put oj.dst u) w) ∨
      (∃ K : Value → World → Prop, StepO P ops oj a w K ∧ (∀ v w', K v w' → I w') ∧ ∀ v w', K v w' → PlanF P md ops Q I m (listed.setIfInBounds j true) (a.put oj.dst v) w')) := by
  induction h with
  | done hr h => intro j hj; rw [hr] at hj; cases hj
  | fork o K hne hi hs hI h =>
    intro j hj
    exact ⟨_, o j, rfl, hi j hj, .inr ⟨K j, hs j hj, hI j hj, h j hj⟩⟩
  | @take n listed a w i o v hi hf hr hs h ih =>
    intro j hj
    by_cases hji : j = i
    · subst hji; exact ⟨_, o, rfl, hi, .inl ⟨v, hs, h⟩⟩
    · obtain ⟨m, oj, rfl, hoj, hh⟩ := ih j (ready_mono hj hji)
      obtain ⟨hjun, oj', hoj', hall⟩ := mem_ready.1 hj
      obtain rfl : oj' = oj := by rw [hoj] at hoj'; exact (Option.some.inj hoj').symm
      have hnot : ∀ e ∈ oj'.after, Region.binds md e = true → e.on ≠ i := fun e he hb heq => by
        have h1 := hall e he hb
        have h0 := (mem_ready.1 hr).1
        rw [heq] at h1
        rcases Nat.lt_or_ge i listed.size with h' | h'
        · simp [h'] at h0 h1; rw [h0] at h1; cases h1
        · simp [Array.getElem?_eq_none h'] at h1
      obtain ⟨h1, h2, h3⟩ := Oper.apart_spec (Region.free_spec hi hf j oj' hoj hji hjun hnot)
      refine ⟨m + 1, oj', rfl, hoj, ?_⟩
      have hst : ∀ u, StepI P ops I o v (a.put oj'.dst u) := fun u => hs.move (put_agree h3 a u)
      rcases hh with ⟨u, hsj, hp⟩ | ⟨K, hsj, hKI, hp⟩
      · refine .inl ⟨u, hsj.move fun t ht => (put_agree h1 a v t ht).symm, ?_⟩
        refine PlanF.take i o v hi (free_set hf) (ready_mono hr (Ne.symm hji)) (hst u) ?_
        rw [Array.setIfInBounds_comm _ _ hji, ← Act.put_comm a v u h2]
        exact hp
      · refine .inr ⟨K, hsj.move (hns j oj' · · hoj) fun t ht => (put_agree h1 a v t ht).symm, hKI, fun u w' hK => ?_⟩
        refine PlanF.take i o v hi (free_set hf) (ready_mono hr (Ne.symm hji)) (hst u) ?_
        rw [Array.setIfInBounds_comm _ _ hji, ← Act.put_comm a v u h2]
        exact hp u w' hK

theorem PlanF.any (hns : ∀ (i : Nat) (o : Oper) cs b, ops[i]? = some o → o.op ≠ .select cs b) : ∀ (fuel n : Nat) (listed : Array Bool) (a : Act) (w : World), DC md ops listed → n ≤ fuel → I w → PlanF P md ops Q I n listed a w → wpAny P md ops Q fuel listed a w
  | 0, n, listed, a, w, _, hn, hI, h => by
    cases h with
    | done hr h => exact ⟨hr, h⟩
    | take => omega
    | fork => omega
  | fuel + 1, n, listed, a, w, hd, hn, hI, h => by
    refine ⟨fun hr => ?_, fun j hj => ?_⟩
    · cases h with
      | done _ h => exact h
      | take i o v hi hf hr' => rw [hr] at hr'; cases hr'
      | fork o K hne => exact absurd hr hne
    · obtain ⟨m, oj, rfl, hoj, hh⟩ := h.first hns j hj
      rcases hh with ⟨u, hsj, hp⟩ | ⟨K, hsj, hKI, hp⟩
      · have hrec := PlanF.any hns fuel m _ _ w (hd.set hj) (by omega) hI hp
        unfold wpOp
        simp only [hoj]
        rcases hsj a w (fun _ _ => rfl) hI with ⟨hw, rfl⟩ | ⟨hw, hrun⟩
        · rw [hw]; exact hrec
        · rw [hw, if_pos rfl]
          refine .inl ?_
          unfold Oper.wp
          rw [hrun]
          exact hrec
      · exact StepO.wpOp hoj (hsj.mono fun v w' hK => PlanF.any hns fuel m _ _ w' (hd.set hj) (by omega) (hKI v w' hK) (hp v w' hK))

/-- Two lanes of operations that change the world. -/
inductive LanesP (P : Program) (ops : Array Oper) (E : Act → World → Prop) (I : World → Prop) : List Nat → List Nat → Act → World → Prop
  | nil {a : Act} {w : World} (h : E a w) : LanesP P ops E I [] [] a w
  | left {i : Nat} {A : List Nat} {a : Act} {w : World} (o : Oper) (K : Value → World → Prop) (hi : ops[i]? = some o) (hs : StepO P ops o a w K) (hI : ∀ v w', K v w' → I w') (h : ∀ v w', K v w' → LanesP P ops E I A [] (a.put o.dst v) w') : LanesP P ops E I (i :: A) [] a w
  | right {j : Nat} {B : List Nat} {a : Act} {w : World} (o : Oper) (K : Value → World → Prop) (hi : ops[j]? = some o) (hs : StepO P ops o a w K) (hI : ∀ v w', K v w' → I w') (h : ∀ v w', K v w' → LanesP P ops E I [] B (a.put o.dst v) w') : LanesP P ops E I [] (j :: B) a w
  | both {i j : Nat} {A B : List Nat} {a : Act} {w : World} (o o' : Oper) (K K' : Value → World → Prop) (hi : ops[i]? = some o) (hj : ops[j]? = some o') (hs : StepO P ops o a w K) (hs' : StepO P ops o' a w K') (hI : ∀ v w', K v w' → I w') (hI' : ∀ v w', K' v w' → I w')
      (h : ∀ v w', K v w' → LanesP P ops E I A (j :: B) (a.put o.dst v) w') (h' : ∀ v w', K' v w' → LanesP P ops E I (i :: A) B (a.put o'.dst v) w') : LanesP P ops E I (i :: A) (j :: B) a w

def quietGo (md : Region.Mode) (ops : Array Oper) : List Nat → Array Bool → Option (Array Bool)
  | [], listed => some listed
  | i :: r, listed => if Region.free md ops listed i && (Region.ready md ops listed).contains i then quietGo md ops r (listed.setIfInBounds i true) else none
def endGo (md : Region.Mode) (ops : Array Oper) (r : List Nat) (listed : Array Bool) : Bool := match quietGo md ops r listed with
  | some l => (Region.ready md ops l).isEmpty
  | none => false
def lanesGo (md : Region.Mode) (ops : Array Oper) (r : List Nat) : Nat → List Nat → List Nat → Array Bool → Bool
  | _, [], [], listed => endGo md ops r listed
  | f + 1, i :: A, [], listed => (Region.ready md ops listed == [i]) && lanesGo md ops r f A [] (listed.setIfInBounds i true)
  | f + 1, [], j :: B, listed => (Region.ready md ops listed == [j]) && lanesGo md ops r f [] B (listed.setIfInBounds j true)
  | f + 1, i :: A, j :: B, listed => ((Region.ready md ops listed == [i, j]) && (i != j) && lanesGo md ops r f A (j :: B) (listed.setIfInBounds i true) && lanesGo md ops r f (i :: A) B (listed.setIfInBounds j true)) || ((Region.ready md ops listed == [i]) && lanesGo md ops r f A (j :: B) (listed.setIfInBounds i true))
  | 0, _ :: _, _, _ => false
  | 0, [], _ :: _, _ => false
/-- What only reads, in one order. -/
def QuietL (P : Program) (ops : Array Oper) (E : Act → World → Prop) (I : World → Prop) : List Nat → Act → World → Prop
  | [], a, w => E a w
  | i :: r, a, w => ∃ o v, ops[i]? = some o ∧ StepI P ops I o v a ∧ QuietL P ops E I r (a.put o.dst v) w

theorem QuietL.plan {E : Act → World → Prop} {n : Nat} : ∀ (r : List Nat) (listed l : Array Bool) (a : Act) (w : World), quietGo md ops r listed = some l → (∀ a w, E a w → PlanF P md ops Q I n l a w) → QuietL P ops E I r a w → PlanF P md ops Q I (n + r.length) listed a w
  | [], listed, l, a, w, hg, hE, h => by
    simp only [quietGo, Option.some.injEq] at hg
    subst hg
    exact hE _ _ h
  | i :: r, listed, l, a, w, hg, hE, h => by
    obtain ⟨o, v, hi, hs, hr⟩ := h
    simp only [quietGo] at hg
    split at hg
    · rename_i hc
      rw [Bool.and_eq_true] at hc
      exact .take i o v hi hc.1 (by simpa using hc.2) hs (QuietL.plan r _ l _ w hg hE hr)
    · cases hg

theorem PlanF.more {n m : Nat} {listed : Array Bool} {a : Act} {w : World} (h : PlanF P md ops Q I n listed a w) : n ≤ m → PlanF P md ops Q I m listed a w := by
  induction h generalizing m with
  | done hr h => exact fun _ => .done hr h
  | take i o v hi hf hr hs h ih =>
    intro hm
    obtain ⟨k, rfl⟩ : ∃ k, m = k + 1 := ⟨m - 1, by omega⟩
    exact .take i o v hi hf hr hs (ih (by omega))
  | fork o K hne hi hs hI h ih =>
    intro hm
    obtain ⟨k, rfl⟩ : ∃ k, m = k + 1 := ⟨m - 1, by omega⟩
    exact .fork o K hne hi hs hI fun i hr v w' hK => ih i hr v w' hK (by omega)

theorem LanesP.plan {E : Act → World → Prop} {r : List Nat} (hE : ∀ (listed : Array Bool) a w, endGo md ops r listed = true → E a w → PlanF P md ops Q I r.length listed a w) : ∀ (f : Nat) (A B : List Nat) (listed : Array Bool) (a : Act) (w : World), lanesGo md ops r f A B listed = true → LanesP P ops E I A B a w → PlanF P md ops Q I (f + r.length) listed a w := by
  intro f
  induction f with
  | zero =>
    intro A B listed a w hg h
    cases h with
    | nil h => rw [Nat.zero_add]; exact hE _ _ _ (by simpa [lanesGo] using hg) h
    | left => simp [lanesGo] at hg
    | right => simp [lanesGo] at hg
    | both => simp [lanesGo] at hg
  | succ f ih =>
    intro A B listed a w hg h
    rw [Nat.add_right_comm]
    cases h with
    | nil h => exact (hE _ _ _ (by simpa [lanesGo] using hg) h).more (by omega)
    | @left i A _ _ o K hi hs hI h =>
      simp only [lanesGo, Bool.and_eq_true, beq_iff_eq] at hg
      refine .fork (fun _ => o) (fun _ => K) (by rw [hg.1]; simp) ?_ ?_ ?_ ?_
      all_goals
        intro k hk
        rw [hg.1] at hk
        obtain rfl : k = i := by simpa using hk
      · exact hi
      · exact hs
      · exact hI
      · exact fun v w' hK => ih _ _ _ _ _ hg.2 (h v w' hK)
    | @right i B _ _ o K hi hs hI h =>
      simp only [lanesGo, Bool.and_eq_true, beq_iff_eq] at hg
      refine .fork (fun _ => o) (fun _ => K) (by rw [hg.1]; simp) ?_ ?_ ?_ ?_
      all_goals
        intro k hk
        rw [hg.1] at hk
        obtain rfl : k = i := by simpa using hk
      · exact hi
      · exact hs
      · exact hI
      · exact fun v w' hK => ih _ _ _ _ _ hg.2 (h v w' hK)
    | @both i j A B _ _ o o' K K' hi hj hs hs' hI hI' h h' =>
      simp only [lanesGo, Bool.or_eq_true, Bool.and_eq_true, beq_iff_eq, bne_iff_ne, ne_eq] at hg
      rcases hg with ⟨⟨⟨hr, hne⟩, h1⟩, h2⟩ | ⟨hr, h1⟩
      · refine .fork (fun k => if k = i then o else o') (fun k => if k = i then K else K') (by rw [hr]; simp) ?_ ?_ ?_ ?_
        all_goals
          intro k hk
          rw [hr] at hk
          have hk2 : k = i ∨ k = j := by simpa using hk
          rcases hk2 with rfl | rfl
        · simpa using hi
        · rw [if_neg (Ne.symm hne)]; exact hj
        · simpa using hs
        · simp only [if_neg (Ne.symm hne)]; exact hs'
        · simpa using hI
        · simp only [if_neg (Ne.symm hne)]; exact hI'
        · simp only [if_true]; exact fun v w' hK => ih _ _ _ _ _ h1 (h v w' hK)
        · simp only [if_neg (Ne.symm hne)]; exact fun v w' hK => ih _ _ _ _ _ h2 (h' v w' hK)
      · refine .fork (fun _ => o) (fun _ => K) (by rw [hr]; simp) ?_ ?_ ?_ ?_
        all_goals
          intro k hk
          rw [hr] at hk
          obtain rfl : k = i := by simpa using hk
        · exact hi
        · exact hs
        · exact hI
        · exact fun v w' hK => ih _ _ _ _ _ h1 (h v w' hK)

def lanesOk (md : Region.Mode) (ops : Array Oper) (q A B r : List Nat) : Bool := Region.noSelect ops && decide (A.length + B.length + r.length + q.length ≤ ops.size) && match quietGo md ops q (Array.replicate ops.size false) with
  | some l => lanesGo md ops r (A.length + B.length) A B l
  | none => false

/-- THE LAW: first what only reads (q), then the two lanes, then what only reads (r). -/
theorem wp_region_lanes {id : Nat} {a : Act} {w : World} (I : World → Prop) (q A B r : List Nat) (hm : P.follows .mixedOrders = true) (hok : lanesOk .any ops q A B r = true) (hI : I w.drew)
    (h : QuietL P ops (fun a w => LanesP P ops (fun a w => QuietL P ops (Q .normal) I r a w) I A B a w) I q a w.drew) : (Code.region id ops true).wp P Q a w := by
  refine wp_region_any hm ?_
  unfold lanesOk at hok
  simp only [Bool.and_eq_true, decide_eq_true_eq] at hok
  obtain ⟨⟨h1, h2⟩, h3⟩ := hok
  split at h3
  · rename_i l hl
    refine PlanF.any (fun i o cs b hi => Region.noSelect_spec h1 i o cs b hi) ops.size (A.length + B.length + r.length + q.length) _ a w.drew (DC.none _) h2 hI ?_
    refine QuietL.plan q _ l a w.drew hl (fun a w hL => ?_) h
    refine LanesP.plan (fun listed a w hg hE => ?_) _ A B l a w h3 hL
    unfold endGo at hg
    split at hg
    · rename_i l' hl'
      have := QuietL.plan (n := 0) (Q := Q) r listed l' a w hl' (fun a w hq => .done (by simpa using hg) hq) hE
      rwa [Nat.zero_add] at this
    · cases hg
  · cases h3

variable {E : Act → World → Prop} {i : Nat} {r : List Nat} {o : Oper} {a : Act} {w : World}
theorem QuietL.val {v : Value} (hi : ops[i]? = some o) (hns : ∀ cs b, o.op ≠ .select cs b) (hw : Region.wanted o (yielded ops a.tmps) = true) (h : ∀ w, I w → (execOp a.eval o).run P w = .ok (.value v) w)
    (hr : QuietL P ops E I r (a.put o.dst v) w) : QuietL P ops E I (i :: r) a w :=
  ⟨o, v, hi, fun a' w' hag hI => .inr ⟨by rw [wanted_agree o hag]; exact hw, by rw [exec_agree o hns hag]; exact h w' hI⟩, hr⟩
theorem QuietL.nil (h : E a w) : QuietL P ops E I [] a w := h
end

end Go.Proofs.Ytlacjifnniahhaa

namespace Go.Proofs.Ytlacjifnniahhaa
open Go Go.RowKit

section
variable {P : Program} {ops : Array Oper} {Q : Exit → Act → World → Prop} {md : Region.Mode} {I : World → Prop}
/-- Which operations come next: one that only reads; one that changes the world; either of two. -/
inductive Mx where
  | leaf
  | q (i : Nat) (t : Mx)
  | one (i : Nat) (t : Mx)
  | two (i j : Nat) (t u : Mx)
def Mx.depth : Mx → Nat
  | .leaf => 0
  | .q _ t => t.depth + 1
  | .one _ t => t.depth + 1
  | .two _ _ t u => max t.depth u.depth + 1
/-- Several that only read, one behind the other. -/
def Mx.qs : List Nat → Mx → Mx
  | [], t => t
  | i :: l, t => .q i (Mx.qs l t)
def mxGo (md : Region.Mode) (ops : Array Oper) : Mx → Array Bool → Bool
  | .leaf, listed => (Region.ready md ops listed).isEmpty
  | .q i t, listed => Region.free md ops listed i && (Region.ready md ops listed).contains i && mxGo md ops t (listed.setIfInBounds i true)
  | .one i t, listed => (Region.ready md ops listed == [i]) && mxGo md ops t (listed.setIfInBounds i true)
  | .two i j t u, listed => (Region.ready md ops listed == [i, j]) && (i != j) && mxGo md ops t (listed.setIfInBounds i true) && mxGo md ops u (listed.setIfInBounds j true)
def MixL (P : Program) (ops : Array Oper) (E : Act → World → Prop) (I : World → Prop) : Mx → Act → World → Prop
  | .leaf, a, w => E a w
  | .q i t, a, w => ∃ o v, ops[i]? = some o ∧ StepI P ops I o v a ∧ MixL P ops E I t (a.put o.dst v) w
  | .one i t, a, w => ∃ o, ops[i]? = some o ∧ StepO P ops o a w fun v w' => I w' ∧ MixL P ops E I t (a.put o.dst v) w'
  | .two i j t u, a, w => (∃ o, ops[i]? = some o ∧ StepO P ops o a w fun v w' => I w' ∧ MixL P ops E I t (a.put o.dst v) w') ∧ (∃ o, ops[j]? = some o ∧ StepO P ops o a w fun v w' => I w' ∧ MixL P ops E I u (a.put o.dst v) w')
theorem MixL.plan : ∀ (t : Mx) (listed : Array Bool) (a : Act) (w : World), mxGo md ops t listed = true → MixL P ops (Q .normal) I t a w → PlanF P md ops Q I t.depth listed a w
  | .leaf, listed, a, w, hg, h => .done (by simpa [mxGo] using hg) h
  | .q i t, listed, a, w, hg, h => by
    simp only [mxGo, Bool.and_eq_true] at hg
    obtain ⟨o, v, hi, hs, hr⟩ := h
    exact .take i o v hi hg.1.1 (by simpa using hg.1.2) hs (MixL.plan t _ _ _ hg.2 hr)
  | .one i t, listed, a, w, hg, h => by
    simp only [mxGo, Bool.and_eq_true, beq_iff_eq] at hg
    obtain ⟨o, hi, hs⟩ := h
    refine .fork (fun _ => o) (fun _ => fun v w' => I w' ∧ MixL P ops (Q .normal) I t (a.put o.dst v) w') (by rw [hg.1]; simp) ?_ ?_ ?_ ?_
    all_goals
      intro k hk
      rw [hg.1] at hk
      obtain rfl : k = i := by simpa using hk
    · exact hi
    · exact hs
    · exact fun v w' hK => hK.1
    · exact fun v w' hK => MixL.plan t _ _ _ hg.2 hK.2
  | .two i j t u, listed, a, w, hg, h => by
    simp only [mxGo, Bool.and_eq_true, beq_iff_eq, bne_iff_ne, ne_eq] at hg
    obtain ⟨⟨⟨hr, hne⟩, h1⟩, h2⟩ := hg
    obtain ⟨⟨o, hi, hs⟩, ⟨o', hj, hs'⟩⟩ := h
    refine .fork (fun k => if k = i then o else o') (fun k => if k = i then (fun v w' => I w' ∧ MixL P ops (Q .normal) I t (a.put o.dst v) w') else (fun v w' => I w' ∧ MixL P ops (Q .normal) I u (a.put o'.dst v) w')) (by rw [hr]; simp) ?_ ?_ ?_ ?_
    all_goals
      intro k hk
      rw [hr] at hk
      have hk2 : k = i ∨ k = j := by simpa using hk
      rcases hk2 with rfl | rfl
    · simpa using hi
    · rw [if_neg (Ne.symm hne)]; exact hj
    · simp only [if_true]; exact hs
    · simp only [if_neg (Ne.symm hne)]; exact hs'
    · simp only [if_true]; exact fun v w' hK => hK.1
    · simp only [if_neg (Ne.symm hne)]; exact fun v w' hK => hK.1
    · simp only [if_true]; exact fun v w' hK => (MixL.plan t _ _ _ h1 hK.2).more (by omega)
    · simp only [if_neg (Ne.symm hne)]; exact fun v w' hK => (MixL.plan u _ _ _ h2 hK.2).more (by omega)
def mxOk (md : Region.Mode) (ops : Array Oper) (t : Mx) : Bool := Region.noSelect ops && decide (t.depth ≤ ops.size) && mxGo md ops t (Array.replicate ops.size false)
/-- THE LAW. -/
theorem wp_region_mix {id : Nat} {a : Act} {w : World} (I : World → Prop) (t : Mx) (hm : P.follows .mixedOrders = true) (hok : mxOk .any ops t = true) (hI : I w.drew)
    (h : MixL P ops (Q .normal) I t a w.drew) : (Code.region id ops true).wp P Q a w := by
  refine wp_region_any hm ?_
  unfold mxOk at hok
  simp only [Bool.and_eq_true, decide_eq_true_eq] at hok
  obtain ⟨⟨h1, h2⟩, h3⟩ := hok
  exact PlanF.any (fun i o cs b hi => Region.noSelect_spec h1 i o cs b hi) ops.size t.depth _ a w.drew (DC.none _) h2 hI (MixL.plan t _ a w.drew h3 h)
variable {E : Act → World → Prop} {i j : Nat} {t u : Mx} {o o' : Oper} {a : Act} {w : World}
theorem MixL.val {v : Value} (hi : ops[i]? = some o) (hns : ∀ cs b, o.op ≠ .select cs b) (hw : Region.wanted o (yielded ops a.tmps) = true) (h : ∀ w, I w → (execOp a.eval o).run P w = .ok (.value v) w)
    (hr : MixL P ops E I t (a.put o.dst v) w) : MixL P ops E I (.q i t) a w :=
  ⟨o, v, hi, fun a' w' hag hI => .inr ⟨by rw [wanted_agree o hag]; exact hw, by rw [exec_agree o hns hag]; exact h w' hI⟩, hr⟩
theorem MixL.skip (hi : ops[i]? = some o) (hw : Region.wanted o (yielded ops a.tmps) = false) (hr : MixL P ops E I t (a.put o.dst undef) w) : MixL P ops E I (.q i t) a w :=
  ⟨o, undef, hi, fun a' w' hag hI => .inl ⟨by rw [wanted_agree o hag]; exact hw, rfl⟩, hr⟩
theorem MixL.does {v : Value} {w1 : World} (hi : ops[i]? = some o) (hw : Region.wanted o (yielded ops a.tmps) = true) (h : (execOp a.eval o).run P w = .ok (.value v) w1) (hI : I w1)
    (hr : MixL P ops E I t (a.put o.dst v) w1) : MixL P ops E I (.one i t) a w :=
  ⟨o, hi, hw, .inl ⟨v, w1, h, hI, hr⟩⟩
theorem MixL.call {f : FuncId} {args : Array Value} (hi : ops[i]? = some o) (hw : Region.wanted o (yielded ops a.tmps) = true) (he : (execOp a.eval o).run P w = .ok (.enter f args) w)
    (h : Calls P f args w fun e w' => ∃ v, e = .returned v ∧ I w' ∧ MixL P ops E I t (a.put o.dst v) w') : MixL P ops E I (.one i t) a w :=
  ⟨o, hi, hw, .inr (.inl ⟨f, args, w, he, h⟩)⟩
theorem MixL.store {w1 : World} (hi : ops[i]? = some o) (hw : Region.wanted o (yielded ops a.tmps) = true) (h : (execOp a.eval o).run P w = .ok .skip w1) (hI : I w1)
    (hr : MixL P ops E I t (a.put o.dst undef) w1) : MixL P ops E I (.one i t) a w :=
  ⟨o, hi, hw, .inr (.inr ⟨w1, h, hI, hr⟩)⟩
theorem MixL.both (h1 : MixL P ops E I (.one i t) a w) (h2 : MixL P ops E I (.one j u) a w) : MixL P ops E I (.two i j t u) a w := ⟨h1, h2⟩
theorem MixL.nil (h : E a w) : MixL P ops E I .leaf a w := h
end

end Go.Proofs.Ytlacjifnniahhaa

namespace Go.Proofs.Ytlacjifnniahhaa
open Go Go.RowKit
set_option linter.unusedVariables false
set_option linter.unusedSimpArgs false

/-- A scale: units, ppem, the phases. -/
structure Sc where
  u : Int
  p : Int
  fx : Int
  fy : Int
def wtZ (lo hi x : Int) : Bool := decide (lo ≤ x) && decide (x ≤ hi)
theorem wtZ_in {lo hi x : Int} (h : wtZ lo hi x = true) : lo ≤ x ∧ x ≤ hi := by unfold wtZ at h; simpa using h
def mscB (s : Sc) : Bool := wtZ 16 16384 s.u && wtZ 1 2048 s.p && wtZ 0 63 s.fx && wtZ 0 63 s.fy
theorem mscB_in {s : Sc} (h : mscB s = true) : (16 ≤ s.u ∧ s.u ≤ 16384) ∧ (1 ≤ s.p ∧ s.p ≤ 2048) ∧ (0 ≤ s.fx ∧ s.fx ≤ 63) ∧ 0 ≤ s.fy ∧ s.fy ≤ 63 := by
  unfold mscB at h
  simp only [Bool.and_eq_true] at h
  exact ⟨wtZ_in h.1.1.1, wtZ_in h.1.1.2, wtZ_in h.1.2, wtZ_in h.2⟩
theorem fwithin_any (x lo hi : Int) (w : World) : Calls Try.prog 56 #[.int .i64 x, .int .i64 lo, .int .i64 hi] w fun e w' => e = .returned (.bool (wtZ lo hi x)) ∧ w' = w := by
  by_cases h1 : lo ≤ x <;> by_cases h2 : x ≤ hi
  all_goals
    go_enter Try.func56, Try.ntmps56
    go_wp2
    go_ret
    simp [wtZ, h1, h2]
set_option maxRecDepth 100000 in
set_option maxHeartbeats 1000000 in
theorem fmsc_any (s : Sc) (w : World) : Calls Try.prog 28 #[.agg #[.int .i64 s.u, .int .i64 s.p, .int .i64 s.fx, .int .i64 s.fy]] w fun e w' => e = .returned (.bool (mscB s)) ∧ Below w.heap.size w w' := by
  have C1 := fun W => fwithin_any s.u 16 16384 W
  have C2 := fun W => fwithin_any s.p 1 2048 W
  have C3 := fun W => fwithin_any s.fx 0 63 W
  have C4 := fun W => fwithin_any s.fy 0 63 W
  cases h1 : wtZ 16 16384 s.u
  · rw [h1] at C1
    have HR : mscB s = false := by unfold mscB; rw [h1]; rfl
    rw [HR]
    clear HR h1
    go_enter Try.func28, Try.ntmps28
    go_wp2_with (go_at_call 56; with_reducible first
      | (refine (C1 _).mono ?_; rintro e w1 ⟨rfl, rfl⟩; clear C1))
    go_ret
    exact ⟨rfl, below_a1 _ _⟩
  cases h2 : wtZ 1 2048 s.p
  · rw [h1] at C1
    rw [h2] at C2
    have HR : mscB s = false := by unfold mscB; rw [h1, h2]; rfl
    rw [HR]
    clear HR h1 h2
    go_enter Try.func28, Try.ntmps28
    go_wp2_with (go_at_call 56; with_reducible first
      | (refine (C1 _).mono ?_; rintro e w1 ⟨rfl, rfl⟩; clear C1)
      | (refine (C2 _).mono ?_; rintro e w1 ⟨rfl, rfl⟩; clear C2))
    go_ret
    exact ⟨rfl, below_a1 _ _⟩
  cases h3 : wtZ 0 63 s.fx
  · rw [h1] at C1
    rw [h2] at C2
    rw [h3] at C3
    have HR : mscB s = false := by unfold mscB; rw [h1, h2, h3]; rfl
    rw [HR]
    clear HR h1 h2 h3
    go_enter Try.func28, Try.ntmps28
    go_wp2_with (go_at_call 56; with_reducible first
      | (refine (C1 _).mono ?_; rintro e w1 ⟨rfl, rfl⟩; clear C1)
      | (refine (C2 _).mono ?_; rintro e w1 ⟨rfl, rfl⟩; clear C2)
      | (refine (C3 _).mono ?_; rintro e w1 ⟨rfl, rfl⟩; clear C3))
    go_ret
    exact ⟨rfl, below_a1 _ _⟩
  cases h4 : wtZ 0 63 s.fy
  · rw [h1] at C1
    rw [h2] at C2
    rw [h3] at C3
    rw [h4] at C4
    have HR : mscB s = false := by unfold mscB; rw [h1, h2, h3, h4]; rfl
    rw [HR]
    clear HR h1 h2 h3 h4
    go_enter Try.func28, Try.ntmps28
    go_wp2_with (go_at_call 56; with_reducible first
      | (refine (C1 _).mono ?_; rintro e w1 ⟨rfl, rfl⟩; clear C1)
      | (refine (C2 _).mono ?_; rintro e w1 ⟨rfl, rfl⟩; clear C2)
      | (refine (C3 _).mono ?_; rintro e w1 ⟨rfl, rfl⟩; clear C3)
      | (refine (C4 _).mono ?_; rintro e w1 ⟨rfl, rfl⟩; clear C4))
    go_ret
    exact ⟨rfl, below_a1 _ _⟩
  · rw [h1] at C1
    rw [h2] at C2
    rw [h3] at C3
    rw [h4] at C4
    have HR : mscB s = true := by unfold mscB; rw [h1, h2, h3, h4]; rfl
    rw [HR]
    clear HR h1 h2 h3 h4
    go_enter Try.func28, Try.ntmps28
    go_wp2_with (go_at_call 56; with_reducible first
      | (refine (C1 _).mono ?_; rintro e w1 ⟨rfl, rfl⟩; clear C1)
      | (refine (C2 _).mono ?_; rintro e w1 ⟨rfl, rfl⟩; clear C2)
      | (refine (C3 _).mono ?_; rintro e w1 ⟨rfl, rfl⟩; clear C3)
      | (refine (C4 _).mono ?_; rintro e w1 ⟨rfl, rfl⟩; clear C4))
    go_ret
    exact ⟨rfl, below_a1 _ _⟩
/-- x at a scale. -/
def scZ (s : Sc) (x unit : Int) : Int := near (x * s.p * 64) (unit * s.u)
theorem fmul_in {x y a b : Int} (hx : -a ≤ x ∧ x ≤ a) (hy : -b ≤ y ∧ y ≤ b) : -(a * b) ≤ x * y ∧ x * y ≤ a * b := by
  have h1 : x.natAbs ≤ a.toNat := by omega
  have h2 : y.natAbs ≤ b.toNat := by omega
  have h3 := Nat.mul_le_mul h1 h2
  rw [← Int.natAbs_mul] at h3
  have h4 : ((a.toNat * b.toNat : Nat) : Int) = a * b := by
    rw [Int.natCast_mul, Int.toNat_of_nonneg (by omega), Int.toNat_of_nonneg (by omega)]
  omega
theorem wrap_in {x : Int} (h : -4611686018427387904 ≤ x ∧ x ≤ 4611686018427387904) : wrap64 x = x := by unfold wrap64; omega
theorem wrap_ini {x : Int} (h : -4611686018427387904 ≤ x ∧ x ≤ 4611686018427387904) : IntKind.i64.wrap x = x := IntWalk.i64_in _ (by omega)
theorem scZ_lim {s : Sc} {x : Int} (h : mscB s = true) (hx : -4294967296 ≤ x ∧ x ≤ 4294967296) : (-8796093022208 ≤ x * s.p ∧ x * s.p ≤ 8796093022208) ∧ -562949953421312 ≤ x * s.p * 64 ∧ x * s.p * 64 ≤ 562949953421312 := by
  have hs := mscB_in h
  have h1 := fmul_in (a := 4294967296) (b := 2048) (x := x) (y := s.p) (by omega) (by omega)
  omega
set_option maxRecDepth 100000 in
theorem fscaled_any (s : Sc) (x unit : Int) (h : mscB s = true) (hx : -4294967296 ≤ x ∧ x ≤ 4294967296) (hu : unit = 65536 ∨ unit = 1) (w : World) : Calls Try.prog 30 #[.agg #[.int .i64 s.u, .int .i64 s.p, .int .i64 s.fx, .int .i64 s.fy], .int .i64 x, .int .i64 unit] w fun e w' => e = .returned (.int .i64 (scZ s x unit)) ∧ Below w.heap.size w w' := by
  have hs := mscB_in h
  obtain ⟨l1, l2⟩ := scZ_lim h hx
  have hub : 1 ≤ unit * s.u ∧ unit * s.u ≤ 1073741824 := by rcases hu with rfl | rfl <;> omega
  have e1 := wrap_in (x := x * s.p) (by omega)
  have e2 := wrap_in (x := x * s.p * 64) (by omega)
  have e3 := wrap_in (x := unit * s.u) (by omega)
  have CN := fun W => near_ok (x * s.p * 64) (unit * s.u) W hub.1 (by omega) (by omega) (by omega)
  clear hs l1 l2 hub hu hx h
  go_enter Try.func30, Try.ntmps30
  go_wp2_with (go_at_call 57; refine (CN _).mono ?_; rintro e w1 ⟨rfl, k, rfl⟩)
  go_ret
  exact ⟨rfl, below_drewN (below_a1 _ _) _⟩
theorem ltF_mm (d : Dt) : ltF d = (decide (max d.1 d.2 ≤ 1048576) && decide (-1048576 ≤ min d.1 d.2)) := by
  obtain ⟨x, y⟩ := d
  unfold ltF fitZ
  simp only
  rw [Bool.eq_iff_iff]
  simp
  omega
set_option maxRecDepth 100000 in
theorem fmaydot_any (d : Dt) (w : World) : Calls Try.prog 31 #[.agg #[.int .i64 d.1, .int .i64 d.2]] w fun e w' => e = .returned (.bool (ltF d)) ∧ Below w.heap.size w w' := by
  obtain ⟨x, y⟩ := d
  go_enter Try.func31, Try.ntmps31
  go_wp2
  all_goals
    go_ret
    refine ⟨?_, below_a1 _ _⟩
    simp [ltF, fitZ]
    try first
      | omega
      | (intros; omega)
      | (rw [Bool.eq_iff_iff]; simp; omega)
end Go.Proofs.Ytlacjifnniahhaa
