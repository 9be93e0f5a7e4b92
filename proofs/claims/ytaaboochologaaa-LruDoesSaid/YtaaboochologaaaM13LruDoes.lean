/- Part 14 of the proof: Fork, Mix. -/
import Derived.Test.YtaaboochologaaaM12LruDoes

namespace Go.Proofs.Ytaaboochologaaa
open Go Go.RowKit

section
variable {P : Program} {ops : Array Oper} {Q : Exit → Act → World → Prop} {md : Region.Mode} {I : World → Prop}

/-- What only reads may be taken as soon as it is ready; of what changes the world, whatever is ready. -/
inductive PlanF (P : Program) (md : Region.Mode) (ops : Array Oper) (Q : Exit → Act → World → Prop) (I : World → Prop) : Nat → Array Bool → Act → World → Prop
  | done {n : Nat} {listed : Array Bool} {a : Act} {w : World} (hr : Region.ready md ops listed = []) (h : Q .normal a w) : PlanF P md ops Q I n listed a w
  | take {n : Nat} {listed : Array Bool} {a : Act} {w : World} (i : Nat) (o : Oper) (v : Value) (hi : ops[i]? = some o) (hf : Region.free md ops listed i = true) (hr : i ∈ Region.ready md ops listed)
      (hs : StepI P ops I o v a) (h : PlanF P md ops Q I n (listed.setIfInBounds i true) (a.put o.dst v) w) : PlanF P md ops Q I (n + 1) listed a w
  | fork {n : Nat} {listed : Array Bool} {a : Act} {w : World} (o : Nat → Oper) (K : Nat → Value → World → Prop) (hne : Region.ready md ops listed ≠ []) (hi : ∀ i, i ∈ Region.ready md ops listed → ops[i]? = some (o i))
      (hs : ∀ i, i ∈ Region.ready md ops listed → StepO P ops (o i) a w (K i)) (hI : ∀ i, i ∈ Region.ready md ops listed → ∀ v w', K i v w' → I w')
      (h : ∀ i, i ∈ Region.ready md ops listed → ∀ v w', K i v w' → PlanF P md ops Q I n (listed.setIfInBounds i true) (a.put (o i).dst v) w') : PlanF P md ops Q I (n + 1) listed a w

theorem PlanF.first (hns : ∀ (i : Nat) (o : Oper) cs b, ops[i]? = some o → o.op ≠ .select cs b) {n : Nat} {listed : Array Bool} {a : Act} {w : World} (h : PlanF P md ops Q I n listed a w) : ∀ j, j ∈ Region.ready md ops listed →
    ∃ m oj, n = m + 1 ∧ ops[j]? = some oj ∧ ((∃ u, StepI P ops I oj u a ∧ PlanF P md ops Q I m (listed.setIfInBounds j true) (a.put oj.dst u) w) ∨
      (∃ K : Value → World → Prop, StepO P ops oj a w K ∧ (∀ v w', K v w' → I w') ∧ ∀ v w', K v w' → PlanF P md ops Q I m (listed.setIfInBounds j true) (a.put oj.dst v) w')) := by
  induction h with
  | done hr h => intro j hj; rw [hr] at hj; cases hj
  | fork o K hne hi hs hI h =>
    intro j hj
    exact ⟨_, o j, rfl, hi j hj, .inr ⟨K j, hs j hj, hI j hj, h j hj⟩⟩
  | @take n listed a w i o v hi hf hr hs h ih =>
    intro j hj
    by_cases hji : j = i
    · subst hji; exact ⟨_, o, rfl, hi, .inl ⟨v, hs, h⟩⟩
    · obtain ⟨m, oj, rfl, hoj, hh⟩ := ih j (ready_mono hj hji)
      obtain ⟨hjun, oj', hoj', hall⟩ := mem_ready.1 hj
      obtain rfl : oj' = oj := by rw [hoj] at hoj'; exact (Option.some.inj hoj').symm
      have hnot : ∀ e ∈ oj'.after, Region.binds md e = true → e.on ≠ i := fun e he hb heq => by
        have h1 := hall e he hb
        have h0 := (mem_ready.1 hr).1
        rw [heq] at h1
        rcases Nat.lt_or_ge i listed.size with h' | h'
        · simp [h'] at h0 h1; rw [h0] at h1; cases h1
        · simp [Array.getElem?_eq_none h'] at h1
      obtain ⟨h1, h2, h3⟩ := Oper.apart_spec (Region.free_spec hi hf j oj' hoj hji hjun hnot)
      refine ⟨m + 1, oj', rfl, hoj, ?_⟩
      have hst : ∀ u, StepI P ops I o v (a.put oj'.dst u) := fun u => hs.move (put_agree h3 a u)
      rcases hh with ⟨u, hsj, hp⟩ | ⟨K, hsj, hKI, hp⟩
      · refine .inl ⟨u, hsj.move fun t ht => (put_agree h1 a v t ht).symm, ?_⟩
        refine PlanF.take i o v hi (free_set hf) (ready_mono hr (Ne.symm hji)) (hst u) ?_
        rw [Array.setIfInBounds_comm _ _ hji, ← Act.put_comm a v u h2]
        exact hp
      · refine .inr ⟨K, hsj.move (hns j oj' · · hoj) fun t ht => (put_agree h1 a v t ht).symm, hKI, fun u w' hK => ?_⟩
        refine PlanF.take i o v hi (free_set hf) (ready_mono hr (Ne.symm hji)) (hst u) ?_
        rw [Array.setIfInBounds_comm _ _ hji, ← Act.put_comm a v u h2]
        exact hp u w' hK

theorem PlanF.any (hns : ∀ (i : Nat) (o : Oper) cs b, ops[i]? = some o → o.op ≠ .select cs b) : ∀ (fuel n : Nat) (listed : Array Bool) (a : Act) (w : World), DC md ops listed → n ≤ fuel → I w → PlanF P md ops Q I n listed a w → wpAny P md ops Q fuel listed a w
  | 0, n, listed, a, w, _, hn, hI, h => by
    cases h with
    | done hr h => exact ⟨hr, h⟩
    | take => omega
    | fork => omega
  | fuel + 1, n, listed, a, w, hd, hn, hI, h => by
    refine ⟨fun hr => ?_, fun j hj => ?_⟩
    · cases h with
      | done _ h => exact h
      | take i o v hi hf hr' => rw [hr] at hr'; cases hr'
      | fork o K hne => exact absurd hr hne
    · obtain ⟨m, oj, rfl, hoj, hh⟩ := h.first hns j hj
      rcases hh with ⟨u, hsj, hp⟩ | ⟨K, hsj, hKI, hp⟩
      · have hrec := PlanF.any hns fuel m _ _ w (hd.set hj) (by omega) hI hp
        unfold wpOp
        simp only [hoj]
        rcases hsj a w (fun _ _ => rfl) hI with ⟨hw, rfl⟩ | ⟨hw, hrun⟩
        · rw [hw]; exact hrec
        · rw [hw, if_pos rfl]
          refine .inl ?_
          unfold Oper.wp
          rw [hrun]
          exact hrec
      · exact StepO.wpOp hoj (hsj.mono fun v w' hK => PlanF.any hns fuel m _ _ w' (hd.set hj) (by omega) (hKI v w' hK) (hp v w' hK))

/-- Two lanes of operations that change the world. -/
inductive LanesP (P : Program) (ops : Array Oper) (E : Act → World → Prop) (I : World → Prop) : List Nat → List Nat → Act → World → Prop
  | nil {a : Act} {w : World} (h : E a w) : LanesP P ops E I [] [] a w
  | left {i : Nat} {A : List Nat} {a : Act} {w : World} (o : Oper) (K : Value → World → Prop) (hi : ops[i]? = some o) (hs : StepO P ops o a w K) (hI : ∀ v w', K v w' → I w') (h : ∀ v w', K v w' → LanesP P ops E I A [] (a.put o.dst v) w') : LanesP P ops E I (i :: A) [] a w
  | right {j : Nat} {B : List Nat} {a : Act} {w : World} (o : Oper) (K : Value → World → Prop) (hi : ops[j]? = some o) (hs : StepO P ops o a w K) (hI : ∀ v w', K v w' → I w') (h : ∀ v w', K v w' → LanesP P ops E I [] B (a.put o.dst v) w') : LanesP P ops E I [] (j :: B) a w
  | both {i j : Nat} {A B : List Nat} {a : Act} {w : World} (o o' : Oper) (K K' : Value → World → Prop) (hi : ops[i]? = some o) (hj : ops[j]? = some o') (hs : StepO P ops o a w K) (hs' : StepO P ops o' a w K') (hI : ∀ v w', K v w' → I w') (hI' : ∀ v w', K' v w' → I w')
      (h : ∀ v w', K v w' → LanesP P ops E I A (j :: B) (a.put o.dst v) w') (h' : ∀ v w', K' v w' → LanesP P ops E I (i :: A) B (a.put o'.dst v) w') : LanesP P ops E I (i :: A) (j :: B) a w

def quietGo (md : Region.Mode) (ops : Array Oper) : List Nat → Array Bool → Option (Array Bool)
  | [], listed => some listed
  | i :: r, listed => if Region.free md ops listed i && (Region.ready md ops listed).contains i then quietGo md ops r (listed.setIfInBounds i true) else none
def endGo (md : Region.Mode) (ops : Array Oper) (r : List Nat) (listed : Array Bool) : Bool := match quietGo md ops r listed with
  | some l => (Region.ready md ops l).isEmpty
  | none => false
def lanesGo (md : Region.Mode) (ops : Array Oper) (r : List Nat) : Nat → List Nat → List Nat → Array Bool → Bool
  | _, [], [], listed => endGo md ops r listed
  | f + 1, i :: A, [], listed => (Region.ready md ops listed == [i]) && lanesGo md ops r f A [] (listed.setIfInBounds i true)
  | f + 1, [], j :: B, listed => (Region.ready md ops listed == [j]) && lanesGo md ops r f [] B (listed.setIfInBounds j true)
  | f + 1, i :: A, j :: B, listed => ((Region.ready md ops listed == [i, j]) && (i != j) && lanesGo md ops r f A (j :: B) (listed.setIfInBounds i true) && lanesGo md ops r f (i :: A) B (listed.setIfInBounds j true)) || ((Region.ready md ops listed == [i]) && lanesGo md ops r f A (j :: B) (listed.setIfInBounds i true))
  | 0, _ :: _, _, _ => false
  | 0, [], _ :: _, _ => false
/-- What only reads, in one order. -/
def QuietL (P : Program) (ops : Array Oper) (E : Act → World → Prop) (I : World → Prop) : List Nat → Act → World → Prop
  | [], a, w => E a w
  | i :: r, a, w => ∃ o v, ops[i]? = some o ∧ StepI P ops I o v a ∧ QuietL P ops E I r (a.put o.dst v) w

theorem QuietL.plan {E : Act → World → Prop} {n : Nat} : ∀ (r : List Nat) (listed l : Array Bool) (a : Act) (w : World), quietGo md ops r listed = some l → (∀ a w, E a w → PlanF P md ops Q I n l a w) → QuietL P ops E I r a w → PlanF P md ops Q I (n + r.length) listed a w
  | [], listed, l, a, w, hg, hE, h => by
    simp only [quietGo, Option.some.injEq] at hg
    subst hg
    exact hE _ _ h
  | i :: r, listed, l, a, w, hg, hE, h => by
    obtain ⟨o, v, hi, hs, hr⟩ := h
    simp only [quietGo] at hg
    split at hg
    · rename_i hc
      rw [Bool.and_eq_true] at hc
      exact .take i o v hi hc.1 (by simpa using hc.2) hs (QuietL.plan r _ l _ w hg hE hr)
    · cases hg

theorem PlanF.more {n m : Nat} {listed : Array Bool} {a : Act} {w : World} (h : PlanF P md ops Q I n listed a w) : n ≤ m → PlanF P md ops Q I m listed a w := by
  induction h generalizing m with
  | done hr h => exact fun _ => .done hr h
  | take i o v hi hf hr hs h ih =>
    intro hm
    obtain ⟨k, rfl⟩ : ∃ k, m = k + 1 := ⟨m - 1, by omega⟩
    exact .take i o v hi hf hr hs (ih (by omega))
  | fork o K hne hi hs hI h ih =>
    intro hm
    obtain ⟨k, rfl⟩ : ∃ k, m = k + 1 := ⟨m - 1, by omega⟩
    exact .fork o K hne hi hs hI fun i hr v w' hK => ih i hr v w' hK (by omega)

theorem LanesP.plan {E : Act → World → Prop} {r : List Nat} (hE : ∀ (listed : Array Bool) a w, endGo md ops r listed = true → E a w → PlanF P md ops Q I r.length listed a w) : ∀ (f : Nat) (A B : List Nat) (listed : Array Bool) (a : Act) (w : World), lanesGo md ops r f A B listed = true → LanesP P ops E I A B a w → PlanF P md ops Q I (f + r.length) listed a w := by
  intro f
  induction f with
  | zero =>
    intro A B listed a w hg h
    cases h with
    | nil h => rw [Nat.zero_add]; exact hE _ _ _ (by simpa [lanesGo] using hg) h
    | left => simp [lanesGo] at hg
    | right => simp [lanesGo] at hg
    | both => simp [lanesGo] at hg
  | succ f ih =>
    intro A B listed a w hg h
    rw [Nat.add_right_comm]
    cases h with
    | nil h => exact (hE _ _ _ (by simpa [lanesGo] using hg) h).more (by omega)
    | @left i A _ _ o K hi hs hI h =>
      simp only [lanesGo, Bool.and_eq_true, beq_iff_eq] at hg
      refine .fork (fun _ => o) (fun _ => K) (by rw [hg.1]; simp) ?_ ?_ ?_ ?_
      all_goals
        intro k hk
        rw [hg.1] at hk
        obtain rfl : k = i := by simpa using hk
      · exact hi
      · exact hs
      · exact hI
      · exact fun v w' hK => ih _ _ _ _ _ hg.2 (h v w' hK)
    | @right i B _ _ o K hi hs hI h =>
      simp only [lanesGo, Bool.and_eq_true, beq_iff_eq] at hg
      refine .fork (fun _ => o) (fun _ => K) (by rw [hg.1]; simp) ?_ ?_ ?_ ?_
      all_goals
        intro k hk
        rw [hg.1] at hk
        obtain rfl : k = i := by simpa using hk
      · exact hi
      · exact hs
      · exact hI
      · exact fun v w' hK => ih _ _ _ _ _ hg.2 (h v w' hK)
    | @both i j A B _ _ o o' K K' hi hj hs hs' hI hI' h h' =>
      simp only [lanesGo, Bool.or_eq_true, Bool.and_eq_true, beq_iff_eq, bne_iff_ne, ne_eq] at hg
      rcases hg with ⟨⟨⟨hr, hne⟩, h1⟩, h2⟩ | ⟨hr, h1⟩
      · refine .fork (fun k => if k = i then o else o') (fun k => if k = i then K else K') (by rw [hr]; simp) ?_ ?_ ?_ ?_
        all_goals
          intro k hk
          rw [hr] at hk
          have hk2 : k = i ∨ k = j := by simpa using hk
          rcases hk2 with rfl | rfl
        · simpa using hi
        · rw [if_neg (Ne.symm hne)]; exact hj
        · simpa using hs
        · simp only [if_neg (Ne.symm hne)]; exact hs'
        · simpa using hI
        · simp only [if_neg (Ne.symm hne)]; exact hI'
        · simp only [if_true]; exact fun v w' hK => ih _ _ _ _ _ h1 (h v w' hK)
        · simp only [if_neg (Ne.symm hne)]; exact fun v w' hK => ih _ _ _ _ _ h2 (h' v w' hK)
      · refine .fork (fun _ => o) (fun _ => K) (by rw [hr]; simp) ?_ ?_ ?_ ?_
        all_goals
          intro k hk
          rw [hr] at hk
          obtain rfl : k = i := by simpa using hk
        · exact hi
        · exact hs
        · exact hI
        · exact fun v w' hK => ih _ _ _ _ _ h1 (h v w' hK)

def lanesOk (md : Region.Mode) (ops : Array Oper) (q A B r : List Nat) : Bool := Region.noSelect ops && decide (A.length + B.length + r.length + q.length ≤ ops.size) && match quietGo md ops q (Array.replicate ops.size false) with
  | some l => lanesGo md ops r (A.length + B.length) A B l
  | none => false

/-- THE LAW: first what only reads (q), then the two lanes, then what only reads (r). -/
theorem wp_region_lanes {id : Nat} {a : Act} {w : World} (I : World → Prop) (q A B r : List Nat) (hm : P.follows .mixedOrders = true) (hok : lanesOk .any ops q A B r = true) (hI : I w.drew)
    (h : QuietL P ops (fun a w => LanesP P ops (fun a w => QuietL P ops (Q .normal) I r a w) I A B a w) I q a w.drew) : (Code.region id ops true).wp P Q a w := by
  refine wp_region_any hm ?_
  unfold lanesOk at hok
  simp only [Bool.and_eq_true, decide_eq_true_eq] at hok
  obtain ⟨⟨h1, h2⟩, h3⟩ := hok
  split at h3
  · rename_i l hl
    refine PlanF.any (fun i o cs b hi => Region.noSelect_spec h1 i o cs b hi) ops.size (A.length + B.length + r.length + q.length) _ a w.drew (DC.none _) h2 hI ?_
    refine QuietL.plan q _ l a w.drew hl (fun a w hL => ?_) h
    refine LanesP.plan (fun listed a w hg hE => ?_) _ A B l a w h3 hL
    unfold endGo at hg
    split at hg
    · rename_i l' hl'
      have := QuietL.plan (n := 0) (Q := Q) r listed l' a w hl' (fun a w hq => .done (by simpa using hg) hq) hE
      rwa [Nat.zero_add] at this
    · cases hg
  · cases h3

variable {E : Act → World → Prop} {i : Nat} {r : List Nat} {o : Oper} {a : Act} {w : World}
theorem QuietL.val {v : Value} (hi : ops[i]? = some o) (hns : ∀ cs b, o.op ≠ .select cs b) (hw : Region.wanted o (yielded ops a.tmps) = true) (h : ∀ w, I w → (execOp a.eval o).run P w = .ok (.value v) w)
    (hr : QuietL P ops E I r (a.put o.dst v) w) : QuietL P ops E I (i :: r) a w :=
  ⟨o, v, hi, fun a' w' hag hI => .inr ⟨by rw [wanted_agree o hag]; exact hw, by rw [exec_agree o hns hag]; exact h w' hI⟩, hr⟩
theorem QuietL.nil (h : E a w) : QuietL P ops E I [] a w := h
end

end Go.Proofs.Ytaaboochologaaa

namespace Go.Proofs.Ytaaboochologaaa
open Go Go.RowKit

section
variable {P : Program} {ops : Array Oper} {Q : Exit → Act → World → Prop} {md : Region.Mode} {I : World → Prop}
/-- Which operations come next: one that only reads; one that changes the world; either of two. -/
inductive Mx where
  | leaf
  | q (i : Nat) (t : Mx)
  | one (i : Nat) (t : Mx)
  | two (i j : Nat) (t u : Mx)
def Mx.depth : Mx → Nat
  | .leaf => 0
  | .q _ t => t.depth + 1
  | .one _ t => t.depth + 1
  | .two _ _ t u => max t.depth u.depth + 1
/-- Several that only read, one behind the other. -/
def Mx.qs : List Nat → Mx → Mx
  | [], t => t
  | i :: l, t => .q i (Mx.qs l t)
def mxGo (md : Region.Mode) (ops : Array Oper) : Mx → Array Bool → Bool
  | .leaf, listed => (Region.ready md ops listed).isEmpty
  | .q i t, listed => Region.free md ops listed i && (Region.ready md ops listed).contains i && mxGo md ops t (listed.setIfInBounds i true)
  | .one i t, listed => (Region.ready md ops listed == [i]) && mxGo md ops t (listed.setIfInBounds i true)
  | .two i j t u, listed => (Region.ready md ops listed == [i, j]) && (i != j) && mxGo md ops t (listed.setIfInBounds i true) && mxGo md ops u (listed.setIfInBounds j true)
def MixL (P : Program) (ops : Array Oper) (E : Act → World → Prop) (I : World → Prop) : Mx → Act → World → Prop
  | .leaf, a, w => E a w
  | .q i t, a, w => ∃ o v, ops[i]? = some o ∧ StepI P ops I o v a ∧ MixL P ops E I t (a.put o.dst v) w
  | .one i t, a, w => ∃ o, ops[i]? = some o ∧ StepO P ops o a w fun v w' => I w' ∧ MixL P ops E I t (a.put o.dst v) w'
  | .two i j t u, a, w => (∃ o, ops[i]? = some o ∧ StepO P ops o a w fun v w' => I w' ∧ MixL P ops E I t (a.put o.dst v) w') ∧ (∃ o, ops[j]? = some o ∧ StepO P ops o a w fun v w' => I w' ∧ MixL P ops E I u (a.put o.dst v) w')
theorem MixL.plan : ∀ (t : Mx) (listed : Array Bool) (a : Act) (w : World), mxGo md ops t listed = true → MixL P ops (Q .normal) I t a w → PlanF P md ops Q I t.depth listed a w
  | .leaf, listed, a, w, hg, h => .done (by simpa [mxGo] using hg) h
  | .q i t, listed, a, w, hg, h => by
    simp only [mxGo, Bool.and_eq_true] at hg
    obtain ⟨o, v, hi, hs, hr⟩ := h
    exact .take i o v hi hg.1.1 (by simpa using hg.1.2) hs (MixL.plan t _ _ _ hg.2 hr)
  | .one i t, listed, a, w, hg, h => by
    simp only [mxGo, Bool.and_eq_true, beq_iff_eq] at hg
    obtain ⟨o, hi, hs⟩ := h
    refine .fork (fun _ => o) (fun _ => fun v w' => I w' ∧ MixL P ops (Q .normal) I t (a.put o.dst v) w') (by rw [hg.1]; simp) ?_ ?_ ?_ ?_
    all_goals
      intro k hk
      rw [hg.1] at hk
      obtain rfl : k = i := by simpa using hk
    · exact hi
    · exact hs
    · exact fun v w' hK => hK.1
    · exact fun v w' hK => MixL.plan t _ _ _ hg.2 hK.2
  | .two i j t u, listed, a, w, hg, h => by
    simp only [mxGo, Bool.and_eq_true, beq_iff_eq, bne_iff_ne, ne_eq] at hg
    obtain ⟨⟨⟨hr, hne⟩, h1⟩, h2⟩ := hg
    obtain ⟨⟨o, hi, hs⟩, ⟨o', hj, hs'⟩⟩ := h
    refine .fork (fun k => if k = i then o else o') (fun k => if k = i then (fun v w' => I w' ∧ MixL P ops (Q .normal) I t (a.put o.dst v) w') else (fun v w' => I w' ∧ MixL P ops (Q .normal) I u (a.put o'.dst v) w')) (by rw [hr]; simp) ?_ ?_ ?_ ?_
    all_goals
      intro k hk
      rw [hr] at hk
      have hk2 : k = i ∨ k = j := by simpa using hk
      rcases hk2 with rfl | rfl
    · simpa using hi
    · rw [if_neg (Ne.symm hne)]; exact hj
    · simp only [if_true]; exact hs
    · simp only [if_neg (Ne.symm hne)]; exact hs'
    · simp only [if_true]; exact fun v w' hK => hK.1
    · simp only [if_neg (Ne.symm hne)]; exact fun v w' hK => hK.1
    · simp only [if_true]; exact fun v w' hK => (MixL.plan t _ _ _ h1 hK.2).more (by omega)
    · simp only [if_neg (Ne.symm hne)]; exact fun v w' hK => (MixL.plan u _ _ _ h2 hK.2).more (by omega)
def mxOk (md : Region.Mode) (ops : Array Oper) (t : Mx) : Bool := Region.noSelect ops && decide (t.depth ≤ ops.size) && mxGo md ops t (Array.replicate ops.size false)
/-- THE LAW. -/
theorem wp_region_mix {id : Nat} {a : Act} {w : World} (I : World → Prop) (t : Mx) (hm : P.follows .mixedOrders = true) (hok : mxOk .any ops t = true) (hI : I w.drew)
    (h : MixL P ops (Q .normal) I t a w.drew) : (Code.region id ops true).wp P Q a w := by
  refine wp_region_any hm ?_
  unfold mxOk at hok
  simp only [Bool.and_eq_true, decide_eq_true_eq] at hok
  obtain ⟨⟨h1, h2⟩, h3⟩ := hok
  exact PlanF.any (fun i o cs b hi => Region.noSelect_spec h1 i o cs b hi) ops.size t.depth _ a w.drew (DC.none _) h2 hI (MixL.plan t _ a w.drew h3 h)
variable {E : Act → World → Prop} {i j : Nat} {t u : Mx} {o o' : Oper} {a : Act} {w : World}
theorem MixL.val {v : Value} (hi : ops[i]? = some o) (hns : ∀ cs b, o.op ≠ .select cs b) (hw : Region.wanted o (yielded ops a.tmps) = true) (h : ∀ w, I w → (execOp a.eval o).run P w = .ok (.value v) w)
    (hr : MixL P ops E I t (a.put o.dst v) w) : MixL P ops E I (.q i t) a w :=
  ⟨o, v, hi, fun a' w' hag hI => .inr ⟨by rw [wanted_agree o hag]; exact hw, by rw [exec_agree o hns hag]; exact h w' hI⟩, hr⟩
theorem MixL.skip (hi : ops[i]? = some o) (hw : Region.wanted o (yielded ops a.tmps) = false) (hr : MixL P ops E I t (a.put o.dst undef) w) : MixL P ops E I (.q i t) a w :=
  ⟨o, undef, hi, fun a' w' hag hI => .inl ⟨by rw [wanted_agree o hag]; exact hw, rfl⟩, hr⟩
theorem MixL.does {v : Value} {w1 : World} (hi : ops[i]? = some o) (hw : Region.wanted o (yielded ops a.tmps) = true) (h : (execOp a.eval o).run P w = .ok (.value v) w1) (hI : I w1)
    (hr : MixL P ops E I t (a.put o.dst v) w1) : MixL P ops E I (.one i t) a w :=
  ⟨o, hi, hw, .inl ⟨v, w1, h, hI, hr⟩⟩
theorem MixL.call {f : FuncId} {args : Array Value} (hi : ops[i]? = some o) (hw : Region.wanted o (yielded ops a.tmps) = true) (he : (execOp a.eval o).run P w = .ok (.enter f args) w)
    (h : Calls P f args w fun e w' => ∃ v, e = .returned v ∧ I w' ∧ MixL P ops E I t (a.put o.dst v) w') : MixL P ops E I (.one i t) a w :=
  ⟨o, hi, hw, .inr (.inl ⟨f, args, w, he, h⟩)⟩
theorem MixL.store {w1 : World} (hi : ops[i]? = some o) (hw : Region.wanted o (yielded ops a.tmps) = true) (h : (execOp a.eval o).run P w = .ok .skip w1) (hI : I w1)
    (hr : MixL P ops E I t (a.put o.dst undef) w1) : MixL P ops E I (.one i t) a w :=
  ⟨o, hi, hw, .inr (.inr ⟨w1, h, hI, hr⟩)⟩
theorem MixL.both (h1 : MixL P ops E I (.one i t) a w) (h2 : MixL P ops E I (.one j u) a w) : MixL P ops E I (.two i j t u) a w := ⟨h1, h2⟩
theorem MixL.nil (h : E a w) : MixL P ops E I .leaf a w := h
end

end Go.Proofs.Ytaaboochologaaa
