/- Part 12 of the proof: Fork, Tree, ChSc, ChSd. -/
import Derived.Test.YteffijgajhngeaaDoorM0CharsetSelectPuts

namespace Go.Proofs.YteffijgajhngeaaDoor
open Go Go.RowKit

section
variable {P : Program} {ops : Array Oper} {Q : Exit → Act → World → Prop} {md : Region.Mode} {I : World → Prop}

/-- What only reads may be taken as soon as it is ready; of what changes the world, whatever is ready. -/
inductive PlanF (P : Program) (md : Region.Mode) (ops : Array Oper) (Q : Exit → Act → World → Prop) (I : World → Prop) : Nat → Array Bool → Act → World → Prop
  | done {n : Nat} {listed : Array Bool} {a : Act} {w : World} (hr : Region.ready md ops listed = []) (h : Q .normal a w) : PlanF P md ops Q I n listed a w
  | take {n : Nat} {listed : Array Bool} {a : Act} {w : World} (i : Nat) (o : Oper) (v : Value) (hi : ops[i]? = some o) (hf : Region.free md ops listed i = true) (hr : i ∈ Region.ready md ops listed)
      (hs : StepI P ops I o v a) (h : PlanF P md ops Q I n (listed.setIfInBounds i true) (a.put o.dst v) w) : PlanF P md ops Q I (n + 1) listed a w
  | fork {n : Nat} {listed : Array Bool} {a : Act} {w : World} (o : Nat → Oper) (K : Nat → Value → World → Prop) (hne : Region.ready md ops listed ≠ []) (hi : ∀ i, i ∈ Region.ready md ops listed → ops[i]? = some (o i))
      (hs : ∀ i, i ∈ Region.ready md ops listed → StepO P ops (o i) a w (K i)) (hI : ∀ i, i ∈ Region.ready md ops listed → ∀ v w', K i v w' → I w')
      (h : ∀ i, i ∈ Region.ready md ops listed → ∀ v w', K i v w' → PlanF P md ops Q I n (listed.setIfInBounds i true) (a.put (o i).dst v) w') : PlanF P md ops Q I (n + 1) listed a w

theorem PlanF.first (hns : ∀ (i : Nat) (o : Oper) cs b, ops[i]? = some o → o.op ≠ .select cs b) {n : Nat} {listed : Array Bool} {a : Act} {w : World} (h : PlanF P md ops Q I n listed a w) : ∀ j, j ∈ Region.ready md ops listed →
    ∃ m oj, n = m + 1 ∧ ops[j]? = some oj ∧ ((∃ u, StepI P ops I oj u a ∧ PlanF P md ops Q I m (listed.setIfInBounds j true) (a.put oj.dst u) w) ∨
      (∃ K : Value → World → Prop, StepO P ops oj a w K ∧ (∀ v w', K v w' → I w') ∧ ∀ v w', K v w' → PlanF P md ops Q I m (listed.setIfInBounds j true) (a.put oj.dst v) w')) := by
  induction h with
  | done hr h => intro j hj; rw [hr] at hj; cases hj
  | fork o K hne hi hs hI h =>
    intro j hj
    exact ⟨_, o j, rfl, hi j hj, .inr ⟨K j, hs j hj, hI j hj, h j hj⟩⟩
  | @take n listed a w i o v hi hf hr hs h ih =>
    intro j hj
    by_cases hji : j = i
    · subst hji; exact ⟨_, o, rfl, hi, .inl ⟨v, hs, h⟩⟩
    · obtain ⟨m, oj, rfl, hoj, hh⟩ := ih j (ready_mono hj hji)
      obtain ⟨hjun, oj', hoj', hall⟩ := mem_ready.1 hj
      obtain rfl : oj' = oj := by rw [hoj] at hoj'; exact (Option.some.inj hoj').symm
      have hnot : ∀ e ∈ oj'.after, Region.binds md e = true → e.on ≠ i := fun e he hb heq => by
        have h1 := hall e he hb
        have h0 := (mem_ready.1 hr).1
        rw [heq] at h1
        rcases Nat.lt_or_ge i listed.size with h' | h'
        · simp [h'] at h0 h1; rw [h0] at h1; cases h1
        · simp [Array.getElem?_eq_none h'] at h1
      obtain ⟨h1, h2, h3⟩ := Oper.apart_spec (Region.free_spec hi hf j oj' hoj hji hjun hnot)
      refine ⟨m + 1, oj', rfl, hoj, ?_⟩
      have hst : ∀ u, StepI P ops I o v (a.put oj'.dst u) := fun u => hs.move (put_agree h3 a u)
      rcases hh with ⟨u, hsj, hp⟩ | ⟨K, hsj, hKI, hp⟩
      · refine .inl ⟨u, hsj.move fun t ht => (put_agree h1 a v t ht).symm, ?_⟩
        refine PlanF.take i o v hi (free_set hf) (ready_mono hr (Ne.symm hji)) (hst u) ?_
        rw [Array.setIfInBounds_comm _ _ hji, ← Act.put_comm a v u h2]
        exact hp
      · refine .inr ⟨K, hsj.move (hns j oj' · · hoj) fun t ht => (put_agree h1 a v t ht).symm, hKI, fun u w' hK => ?_⟩
        refine PlanF.take i o v hi (free_set hf) (ready_mono hr (Ne.symm hji)) (hst u) ?_
        rw [Array.setIfInBounds_comm _ _ hji, ← Act.put_comm a v u h2]
        exact hp u w' hK

theorem PlanF.any (hns : ∀ (i : Nat) (o : Oper) cs b, ops[i]? = some o → o.op ≠ .select cs b) : ∀ (fuel n : Nat) (listed : Array Bool) (a : Act) (w : World), DC md ops listed → n ≤ fuel → I w → PlanF P md ops Q I n listed a w → wpAny P md ops Q fuel listed a w
  | 0, n, listed, a, w, _, hn, hI, h => by
    cases h with
    | done hr h => exact ⟨hr, h⟩
    | take => omega
    | fork => omega
  | fuel + 1, n, listed, a, w, hd, hn, hI, h => by
    refine ⟨fun hr => ?_, fun j hj => ?_⟩
    · cases h with
      | done _ h => exact h
      | take i o v hi hf hr' => rw [hr] at hr'; cases hr'
      | fork o K hne => exact absurd hr hne
    · obtain ⟨m, oj, rfl, hoj, hh⟩ := h.first hns j hj
      rcases hh with ⟨u, hsj, hp⟩ | ⟨K, hsj, hKI, hp⟩
      · have hrec := PlanF.any hns fuel m _ _ w (hd.set hj) (by omega) hI hp
        unfold wpOp
        simp only [hoj]
        rcases hsj a w (fun _ _ => rfl) hI with ⟨hw, rfl⟩ | ⟨hw, hrun⟩
        · rw [hw]; exact hrec
        · rw [hw, if_pos rfl]
          refine .inl ?_
          unfold Oper.wp
          rw [hrun]
          exact hrec
      · exact StepO.wpOp hoj (hsj.mono fun v w' hK => PlanF.any hns fuel m _ _ w' (hd.set hj) (by omega) (hKI v w' hK) (hp v w' hK))

/-- Two lanes of operations that change the world. -/
inductive LanesP (P : Program) (ops : Array Oper) (E : Act → World → Prop) (I : World → Prop) : List Nat → List Nat → Act → World → Prop
  | nil {a : Act} {w : World} (h : E a w) : LanesP P ops E I [] [] a w
  | left {i : Nat} {A : List Nat} {a : Act} {w : World} (o : Oper) (K : Value → World → Prop) (hi : ops[i]? = some o) (hs : StepO P ops o a w K) (hI : ∀ v w', K v w' → I w') (h : ∀ v w', K v w' → LanesP P ops E I A [] (a.put o.dst v) w') : LanesP P ops E I (i :: A) [] a w
  | right {j : Nat} {B : List Nat} {a : Act} {w : World} (o : Oper) (K : Value → World → Prop) (hi : ops[j]? = some o) (hs : StepO P ops o a w K) (hI : ∀ v w', K v w' → I w') (h : ∀ v w', K v w' → LanesP P ops E I [] B (a.put o.dst v) w') : LanesP P ops E I [] (j :: B) a w
  | both {i j : Nat} {A B : List Nat} {a : Act} {w : World} (o o' : Oper) (K K' : Value → World → Prop) (hi : ops[i]? = some o) (hj : ops[j]? = some o') (hs : StepO P ops o a w K) (hs' : StepO P ops o' a w K') (hI : ∀ v w', K v w' → I w') (hI' : ∀ v w', K' v w' → I w')
      (h : ∀ v w', K v w' → LanesP P ops E I A (j :: B) (a.put o.dst v) w') (h' : ∀ v w', K' v w' → LanesP P ops E I (i :: A) B (a.put o'.dst v) w') : LanesP P ops E I (i :: A) (j :: B) a w

def quietGo (md : Region.Mode) (ops : Array Oper) : List Nat → Array Bool → Option (Array Bool)
  | [], listed => some listed
  | i :: r, listed => if Region.free md ops listed i && (Region.ready md ops listed).contains i then quietGo md ops r (listed.setIfInBounds i true) else none
def endGo (md : Region.Mode) (ops : Array Oper) (r : List Nat) (listed : Array Bool) : Bool := match quietGo md ops r listed with
  | some l => (Region.ready md ops l).isEmpty
  | none => false
def lanesGo (md : Region.Mode) (ops : Array Oper) (r : List Nat) : Nat → List Nat → List Nat → Array Bool → Bool
  | _, [], [], listed => endGo md ops r listed
  | f + 1, i :: A, [], listed => (Region.ready md ops listed == [i]) && lanesGo md ops r f A [] (listed.setIfInBounds i true)
  | f + 1, [], j :: B, listed => (Region.ready md ops listed == [j]) && lanesGo md ops r f [] B (listed.setIfInBounds j true)
  | f + 1, i :: A, j :: B, listed => ((Region.ready md ops listed == [i, j]) && (i != j) && lanesGo md ops r f A (j :: B) (listed.setIfInBounds i true) && lanesGo md ops r f (i :: A) B (listed.setIfInBounds j true)) || ((Region.ready md ops listed == [i]) && lanesGo md ops r f A (j :: B) (listed.setIfInBounds i true))
  | 0, _ :: _, _, _ => false
  | 0, [], _ :: _, _ => false
/-- What only reads, in one order. -/
def QuietL (P : Program) (ops : Array Oper) (E : Act → World → Prop) (I : World → Prop) : List Nat → Act → World → Prop
  | [], a, w => E a w
  | i :: r, a, w => ∃ o v, ops[i]? = some o ∧ StepI P ops I o v a ∧ QuietL P ops E I r (a.put o.dst v) w

theorem QuietL.plan {E : Act → World → Prop} {n : Nat} : ∀ (r : List Nat) (listed l : Array Bool) (a : Act) (w : World), quietGo md ops r listed = some l → (∀ a w, E a w → PlanF P md ops Q I n l a w) → QuietL P ops E I r a w → PlanF P md ops Q I (n + r.length) listed a w
  | [], listed, l, a, w, hg, hE, h => by
    simp only [quietGo, Option.some.injEq] at hg
    subst hg
    exact hE _ _ h
  | i :: r, listed, l, a, w, hg, hE, h => by
    obtain ⟨o, v, hi, hs, hr⟩ := h
    simp only [quietGo] at hg
    split at hg
    · rename_i hc
      rw [Bool.and_eq_true] at hc
      exact .take i o v hi hc.1 (by simpa using hc.2) hs (QuietL.plan r _ l _ w hg hE hr)
    · cases hg

theorem PlanF.more {n m : Nat} {listed : Array Bool} {a : Act} {w : World} (h : PlanF P md ops Q I n listed a w) : n ≤ m → PlanF P md ops Q I m listed a w := by
  induction h generalizing m with
  | done hr h => exact fun _ => .done hr h
  | take i o v hi hf hr hs h ih =>
    intro hm
    obtain ⟨k, rfl⟩ : ∃ k, m = k + 1 := ⟨m - 1, by omega⟩
    exact .take i o v hi hf hr hs (ih (by omega))
  | fork o K hne hi hs hI h ih =>
    intro hm
    obtain ⟨k, rfl⟩ : ∃ k, m = k + 1 := ⟨m - 1, by omega⟩
    exact .fork o K hne hi hs hI fun i hr v w' hK => ih i hr v w' hK (by omega)

theorem LanesP.plan {E : Act → World → Prop} {r : List Nat} (hE : ∀ (listed : Array Bool) a w, endGo md ops r listed = true → E a w → PlanF P md ops Q I r.length listed a w) : ∀ (f : Nat) (A B : List Nat) (listed : Array Bool) (a : Act) (w : World), lanesGo md ops r f A B listed = true → LanesP P ops E I A B a w → PlanF P md ops Q I (f + r.length) listed a w := by
  intro f
  induction f with
  | zero =>
    intro A B listed a w hg h
    cases h with
    | nil h => rw [Nat.zero_add]; exact hE _ _ _ (by simpa [lanesGo] using hg) h
    | left => simp [lanesGo] at hg
    | right => simp [lanesGo] at hg
    | both => simp [lanesGo] at hg
  | succ f ih =>
    intro A B listed a w hg h
    rw [Nat.add_right_comm]
    cases h with
    | nil h => exact (hE _ _ _ (by simpa [lanesGo] using hg) h).more (by omega)
    | @left i A _ _ o K hi hs hI h =>
      simp only [lanesGo, Bool.and_eq_true, beq_iff_eq] at hg
      refine .fork (fun _ => o) (fun _ => K) (by rw [hg.1]; simp) ?_ ?_ ?_ ?_
      all_goals
        intro k hk
        rw [hg.1] at hk
        obtain rfl : k = i := by simpa using hk
      · exact hi
      · exact hs
      · exact hI
      · exact fun v w' hK => ih _ _ _ _ _ hg.2 (h v w' hK)
    | @right i B _ _ o K hi hs hI h =>
      simp only [lanesGo, Bool.and_eq_true, beq_iff_eq] at hg
      refine .fork (fun _ => o) (fun _ => K) (by rw [hg.1]; simp) ?_ ?_ ?_ ?_
      all_goals
        intro k hk
        rw [hg.1] at hk
        obtain rfl : k = i := by simpa using hk
      · exact hi
      · exact hs
      · exact hI
      · exact fun v w' hK => ih _ _ _ _ _ hg.2 (h v w' hK)
    | @both i j A B _ _ o o' K K' hi hj hs hs' hI hI' h h' =>
      simp only [lanesGo, Bool.or_eq_true, Bool.and_eq_true, beq_iff_eq, bne_iff_ne, ne_eq] at hg
      rcases hg with ⟨⟨⟨hr, hne⟩, h1⟩, h2⟩ | ⟨hr, h1⟩
      · refine .fork (fun k => if k = i then o else o') (fun k => if k = i then K else K') (by rw [hr]; simp) ?_ ?_ ?_ ?_
        all_goals
          intro k hk
          rw [hr] at hk
          have hk2 : k = i ∨ k = j := by simpa using hk
          rcases hk2 with rfl | rfl
        · simpa using hi
        · rw [if_neg (Ne.symm hne)]; exact hj
        · simpa using hs
        · simp only [if_neg (Ne.symm hne)]; exact hs'
        · simpa using hI
        · simp only [if_neg (Ne.symm hne)]; exact hI'
        · simp only [if_true]; exact fun v w' hK => ih _ _ _ _ _ h1 (h v w' hK)
        · simp only [if_neg (Ne.symm hne)]; exact fun v w' hK => ih _ _ _ _ _ h2 (h' v w' hK)
      · refine .fork (fun _ => o) (fun _ => K) (by rw [hr]; simp) ?_ ?_ ?_ ?_
        all_goals
          intro k hk
          rw [hr] at hk
          obtain rfl : k = i := by simpa using hk
        · exact hi
        · exact hs
        · exact hI
        · exact fun v w' hK => ih _ _ _ _ _ h1 (h v w' hK)

def lanesOk (md : Region.Mode) (ops : Array Oper) (q A B r : List Nat) : Bool := Region.noSelect ops && decide (A.length + B.length + r.length + q.length ≤ ops.size) && match quietGo md ops q (Array.replicate ops.size false) with
  | some l => lanesGo md ops r (A.length + B.length) A B l
  | none => false

/-- THE LAW: first what only reads (q), then the two lanes, then what only reads (r). -/
theorem wp_region_lanes {id : Nat} {a : Act} {w : World} (I : World → Prop) (q A B r : List Nat) (hm : P.follows .mixedOrders = true) (hok : lanesOk .any ops q A B r = true) (hI : I w.drew)
    (h : QuietL P ops (fun a w => LanesP P ops (fun a w => QuietL P ops (Q .normal) I r a w) I A B a w) I q a w.drew) : (Code.region id ops true).wp P Q a w := by
  refine wp_region_any hm ?_
  unfold lanesOk at hok
  simp only [Bool.and_eq_true, decide_eq_true_eq] at hok
  obtain ⟨⟨h1, h2⟩, h3⟩ := hok
  split at h3
  · rename_i l hl
    refine PlanF.any (fun i o cs b hi => Region.noSelect_spec h1 i o cs b hi) ops.size (A.length + B.length + r.length + q.length) _ a w.drew (DC.none _) h2 hI ?_
    refine QuietL.plan q _ l a w.drew hl (fun a w hL => ?_) h
    refine LanesP.plan (fun listed a w hg hE => ?_) _ A B l a w h3 hL
    unfold endGo at hg
    split at hg
    · rename_i l' hl'
      have := QuietL.plan (n := 0) (Q := Q) r listed l' a w hl' (fun a w hq => .done (by simpa using hg) hq) hE
      rwa [Nat.zero_add] at this
    · cases hg
  · cases h3

variable {E : Act → World → Prop} {i : Nat} {r : List Nat} {o : Oper} {a : Act} {w : World}
theorem QuietL.val {v : Value} (hi : ops[i]? = some o) (hns : ∀ cs b, o.op ≠ .select cs b) (hw : Region.wanted o (yielded ops a.tmps) = true) (h : ∀ w, I w → (execOp a.eval o).run P w = .ok (.value v) w)
    (hr : QuietL P ops E I r (a.put o.dst v) w) : QuietL P ops E I (i :: r) a w :=
  ⟨o, v, hi, fun a' w' hag hI => .inr ⟨by rw [wanted_agree o hag]; exact hw, by rw [exec_agree o hns hag]; exact h w' hI⟩, hr⟩
theorem QuietL.nil (h : E a w) : QuietL P ops E I [] a w := h
end

end Go.Proofs.YteffijgajhngeaaDoor

namespace Go.Proofs.YteffijgajhngeaaDoor
open Go Go.RowKit

section
variable {P : Program} {ops : Array Oper} {Q : Exit → Act → World → Prop} {md : Region.Mode} {I : World → Prop}
/-- Which operations come next: one, or either of two. -/
inductive Ord where
  | leaf
  | one (i : Nat) (t : Ord)
  | two (i j : Nat) (t u : Ord)
def Ord.depth : Ord → Nat
  | .leaf => 0
  | .one _ t => t.depth + 1
  | .two _ _ t u => max t.depth u.depth + 1
def treeGo (md : Region.Mode) (ops : Array Oper) (r : List Nat) : Ord → Array Bool → Bool
  | .leaf, listed => endGo md ops r listed
  | .one i t, listed => (Region.ready md ops listed == [i]) && treeGo md ops r t (listed.setIfInBounds i true)
  | .two i j t u, listed => (Region.ready md ops listed == [i, j]) && (i != j) && treeGo md ops r t (listed.setIfInBounds i true) && treeGo md ops r u (listed.setIfInBounds j true)
def TreeL (P : Program) (ops : Array Oper) (E : Act → World → Prop) (I : World → Prop) : Ord → Act → World → Prop
  | .leaf, a, w => E a w
  | .one i t, a, w => ChainL P ops (TreeL P ops E I t) I [(i, true)] a w
  | .two i j t u, a, w => ChainL P ops (TreeL P ops E I t) I [(i, true)] a w ∧ ChainL P ops (TreeL P ops E I u) I [(j, true)] a w
theorem TreeL.plan {E : Act → World → Prop} {r : List Nat} (hE : ∀ (listed : Array Bool) a w, endGo md ops r listed = true → E a w → PlanF P md ops Q I r.length listed a w) : ∀ (t : Ord) (listed : Array Bool) (a : Act) (w : World), treeGo md ops r t listed = true → TreeL P ops E I t a w → PlanF P md ops Q I (t.depth + r.length) listed a w
  | .leaf, listed, a, w, hg, h => by
    rw [show Ord.leaf.depth = 0 from rfl, Nat.zero_add]
    exact hE _ _ _ hg h
  | .one i t, listed, a, w, hg, h => by
    simp only [treeGo, Bool.and_eq_true, beq_iff_eq] at hg
    obtain ⟨o, hi, hs⟩ := h
    rw [show (Ord.one i t).depth + r.length = t.depth + r.length + 1 by simp only [Ord.depth]; omega]
    refine .fork (fun _ => o) (fun _ => fun v w' => I w' ∧ TreeL P ops E I t (a.put o.dst v) w') (by rw [hg.1]; simp) ?_ ?_ ?_ ?_
    all_goals
      intro k hk
      rw [hg.1] at hk
      obtain rfl : k = i := by simpa using hk
    · exact hi
    · exact hs
    · exact fun v w' hK => hK.1
    · exact fun v w' hK => TreeL.plan hE t _ _ _ hg.2 hK.2
  | .two i j t u, listed, a, w, hg, h => by
    simp only [treeGo, Bool.and_eq_true, beq_iff_eq, bne_iff_ne, ne_eq] at hg
    obtain ⟨⟨⟨hr, hne⟩, h1⟩, h2⟩ := hg
    obtain ⟨⟨o, hi, hs⟩, ⟨o', hj, hs'⟩⟩ := h
    rw [show (Ord.two i j t u).depth + r.length = max t.depth u.depth + r.length + 1 by simp only [Ord.depth]; omega]
    refine .fork (fun k => if k = i then o else o') (fun k => if k = i then (fun v w' => I w' ∧ TreeL P ops E I t (a.put o.dst v) w') else (fun v w' => I w' ∧ TreeL P ops E I u (a.put o'.dst v) w')) (by rw [hr]; simp) ?_ ?_ ?_ ?_
    all_goals
      intro k hk
      rw [hr] at hk
      have hk2 : k = i ∨ k = j := by simpa using hk
      rcases hk2 with rfl | rfl
    · simpa using hi
    · rw [if_neg (Ne.symm hne)]; exact hj
    · simp only [if_true]; exact hs
    · simp only [if_neg (Ne.symm hne)]; exact hs'
    · simp only [if_true]; exact fun v w' hK => hK.1
    · simp only [if_neg (Ne.symm hne)]; exact fun v w' hK => hK.1
    · simp only [if_true]; exact fun v w' hK => (TreeL.plan hE t _ _ _ h1 hK.2).more (by omega)
    · simp only [if_neg (Ne.symm hne)]; exact fun v w' hK => (TreeL.plan hE u _ _ _ h2 hK.2).more (by omega)
theorem chain_quiet {E : Act → World → Prop} : ∀ (l : List Nat) (a : Act) (w : World), ChainL P ops E I (l.map fun i => (i, false)) a w → QuietL P ops E I l a w
  | [], _, _, h => h
  | i :: l, a, w, h => by
    obtain ⟨o, v, hi, hs, hr⟩ := h
    exact ⟨o, v, hi, hs, chain_quiet l _ _ hr⟩
theorem QuietL.imp {E E' : Act → World → Prop} (hE : ∀ a w, E a w → E' a w) : ∀ (l : List Nat) (a : Act) (w : World), QuietL P ops E I l a w → QuietL P ops E' I l a w
  | [], _, _, h => hE _ _ h
  | _ :: l, _, _, ⟨o, v, hi, hs, hr⟩ => ⟨o, v, hi, hs, QuietL.imp hE l _ _ hr⟩
def treeOk (md : Region.Mode) (ops : Array Oper) (q : List Nat) (t : Ord) (r : List Nat) : Bool := Region.noSelect ops && decide (t.depth + r.length + q.length ≤ ops.size) && match quietGo md ops q (Array.replicate ops.size false) with
  | some l => treeGo md ops r t l
  | none => false
/-- THE LAW: first what only reads (q), then the tree, then what only reads (r). -/
theorem wp_region_tree {id : Nat} {a : Act} {w : World} (I : World → Prop) (q : List Nat) (t : Ord) (r : List Nat) (hm : P.follows .mixedOrders = true) (hok : treeOk .any ops q t r = true) (hI : I w.drew)
    (h : ChainL P ops (fun a w => TreeL P ops (fun a w => ChainL P ops (Q .normal) I (r.map fun i => (i, false)) a w) I t a w) I (q.map fun i => (i, false)) a w.drew) : (Code.region id ops true).wp P Q a w := by
  refine wp_region_any hm ?_
  unfold treeOk at hok
  simp only [Bool.and_eq_true, decide_eq_true_eq] at hok
  obtain ⟨⟨h1, h2⟩, h3⟩ := hok
  split at h3
  · rename_i l hl
    refine PlanF.any (fun i o cs b hi => Region.noSelect_spec h1 i o cs b hi) ops.size (t.depth + r.length + q.length) _ a w.drew (DC.none _) h2 hI ?_
    refine QuietL.plan q _ l a w.drew hl (fun a w hL => ?_) (chain_quiet q _ _ h)
    refine TreeL.plan (fun listed a w hg hE => ?_) t l a w h3 hL
    unfold endGo at hg
    split at hg
    · rename_i l' hl'
      have := QuietL.plan (n := 0) (Q := Q) r listed l' a w hl' (fun a w hq => .done (by simpa using hg) hq) (chain_quiet r _ _ hE)
      rwa [Nat.zero_add] at this
    · cases hg
  · cases h3
end

end Go.Proofs.YteffijgajhngeaaDoor

namespace Go.Proofs.YteffijgajhngeaaDoor
open Go Go.RowKit
set_option linter.unusedVariables false
set_option linter.unusedSimpArgs false

def RPutS (w : World) (f : Nat) (L : List Int) (e : Ending) (w' : World) : Prop := ∃ A c, e = .returned (.slice A (putS L f).length c) ∧ Hid (Lists w' w'.heap.size A (putS L f)) ∧ Below w.heap.size w w'
theorem take_getD (L : List Int) (i : Nat) (h : i < L.length) : L.take (i + 1) = L.take i ++ [L.getD i 0] := by
  rw [List.take_add_one, List.getElem?_eq_getElem h, List.getD_eq_getElem?_getD, List.getElem?_eq_getElem h]
  rfl
/-- Behind a run another number stands. -/
theorem run_next (L : List Int) (s r n : Nat) (hn : L.length = n) (hs : s < n) (hr : runN sameP n (L.drop s) = r) : (∀ j, s + 1 ≤ j → j < s + r → 0 < j ∧ L.getD j 0 = L.getD (j - 1) 0) ∧ (s + r < n → s + r = 0 ∨ L.getD (s + r) 0 ≠ L.getD (s + r - 1) 0) := by
  have hat := runS_at (T := L.drop s) n (L.getD s 0) (L.drop s).length 1 (Nat.le_refl _) (fun j hj => by
    obtain rfl : j = 0 := by omega
    rw [getD_dropS]; rfl)
  have hmx := runF_max sameP n (L.drop s) (L.drop s).length 1 (by omega)
  have hl := runN_le (P := sameP) (most := n) (L := L.drop s) (by rw [List.length_drop]; omega) (by omega)
  rw [show runF sameP n (L.drop s) (L.drop s).length 1 = r from hr] at hat hmx
  rw [hr, List.length_drop] at hl
  refine ⟨fun j h1 h2 => ⟨by omega, ?_⟩, fun h => .inr fun he => hmx ⟨by rw [List.length_drop]; omega, ?_⟩⟩
  · have e1 := hat (j - s) (by omega)
    have e2 := hat (j - 1 - s) (by omega)
    rw [getD_dropS, show s + (j - s) = j by omega] at e1
    rw [getD_dropS, show s + (j - 1 - s) = j - 1 by omega] at e2
    rw [e1, e2]
  · rw [getD_dropS, getD_dropS, show s + (r - 1) = s + r - 1 by omega, he]
    simp [sameP]
theorem own_ltC {w : World} {base : Nat} {e : TypeId} {size n : Nat} {v : Value} {xs : List Value} (h : w.ownsRow base e size v n xs) : ∀ b ∈ blk v, b < w.heap.size := fun b hb => by
  rcases h.2 with ⟨h1, _⟩ | ⟨g, cap, cur, h1, _, h3, _⟩
  · subst h1; simp [blk, Value.ownBlock] at hb
  · subst h1; simp [blk, Value.ownBlock] at hb; subst hb; exact Blk.lt h3
theorem one8 {M : List Value} (h : Bytes8 M) : ∀ u ∈ M, u.oneCell' = true := fun u hu => by
  obtain ⟨k, _, rfl⟩ := h u hu
  rfl
end Go.Proofs.YteffijgajhngeaaDoor

namespace Go.Proofs.YteffijgajhngeaaDoor
open Go Go.RowKit
set_option linter.unusedVariables false
set_option linter.unusedSimpArgs false
set_option maxRecDepth 100000 in
set_option maxHeartbeats 4000000 in
theorem rpsel_0 (A : Option Addr) (c n : Nat) (L : List Int) (w : World) (hE : Lists w w.heap.size A (intCells L)) (hnn : L.length = n) (hn1 : 1 ≤ n) (hn2 : n ≤ 3000) :
    Calls Tryd.prog 20 #[.slice A n c, .int .i64 0] w (RPutS w 0 L) := by
  obtain ⟨b, o, rfl, hbl, hcl⟩ := hE.plain (by intro e; have h2 := congrArg List.length e; rw [intCells_len, hnn] at h2; simp at h2; omega)
  have HN := Lib.hid hnn
  have HC := Lib.hid (show ∀ j, j < n → ∀ V, Below w.heap.size w V → V.cell? ⟨b, o + j, none⟩ = some (.int .i64 (L.getD j 0)) from fun j hj V hV => (hV.cell (p := ⟨b, o + j, none⟩) hbl).trans (hcl j _ (intCells_atD (by rw [hnn]; exact hj))))
  clear hE hnn hcl
  obtain ⟨i0, hi, hz0, hz1, hz2⟩ := info_parts u8Info
  go_enter Tryd.func20, Tryd.ntmps20
  go_wp2
  go_loopw [5, 6] (fun ov iv wr => ∃ i : Nat, iv = .int .i64 (i : Nat) ∧ i ≤ n ∧ wr.ownsRow w.heap.size 5 1 ov (1 + i) (be1 0 ++ (L.take i).flatMap be1) ∧ Below w.heap.size w wr) (fun _ iv _ => n - (intOf iv).toNat)
  case atStart => exact ⟨0, rfl, Nat.zero_le _, own_oneB w 0, (Below.refl _ _).alloc (Nat.le_refl _) _⟩
  case round =>
    obtain ⟨i, rfl, hin, hown, hb⟩ := hrel
    by_cases hlt : i < n
    · have d1 : (i : Int) < (n : Int) := by omega
      obtain ⟨a, ha⟩ : ∃ a, L.getD i 0 = a := ⟨_, rfl⟩
      have g0 := HC.out i hlt _ hb
      rw [ha] at g0
      have hl1 : b < wr.heap.size := Nat.lt_of_lt_of_le hbl hb.size
      have HSN := Lib.hid (show be1 0 ++ (L.take (i + 1)).flatMap be1 = (be1 0 ++ (L.take i).flatMap be1) ++ [Value.int .u8 (a % 256)] by rw [take_getD L i (by rw [HN.out]; exact hlt), ha, List.flatMap_append, List.append_assoc]; rfl)
      clear ha
      go_wp2_with (first | (at_builtin; refine wpList_append_src_wide _ rfl (.tmp 21) (.tmp 27) 22 rfl w.heap.size 5 i0 (.int .u8 0) 1 1 Tryd.underlying22 hi hz0 hz1 hz2 rfl (by decide) u5 (1 + i) (be1 0 ++ (L.take i).flatMap be1) rfl (own_only hown ((Only.refl wr []).alloc _) (fun _ _ h => (nomatch h))) (wr.heap.size + 1) (some ⟨wr.heap.size, 0, none⟩) 1 1 ([Value.int .u8 (a % 256)]) rfl (lists_row wr _ _) (by simp [be1, be2]) (by simp [be1, be2, Value.oneCell']) (by simp only [maxLen]; omega) (by omega) (by have := hb.size; simp; omega) ?_; intro v4 w4 own4 hg4; have B4 := (hb.alloc hb.size (.cells #[Value.int .u8 (a % 256)] 5)).grown hg4 (by have := hb.size; simp; omega) (fun b hb => ownC_low hown b (by simp [blk, hb]))))
      go_roundw
      case rel => exact ⟨i + 1, by first | rfl | go_num, by omega, by rw [HSN.out]; exact own4, B4⟩
      case measure => simp [intOf]; omega
    · have d1 : ¬ (i : Int) < (n : Int) := by omega
      obtain rfl : i = n := by omega
      obtain ⟨A9, c9, rfl, hl9, hc9⟩ := own_lists hown
      have HF := Lib.hid (show RPutS w 0 L (.returned (.slice A9 (1 + i) c9)) wr from by
        have e : be1 0 ++ (L.take i).flatMap be1 = putS L 0 := by rw [List.take_of_length_le (by rw [HN.out]; exact Nat.le_refl _)]; rfl
        rw [e] at hl9
        refine ⟨A9, c9, ?_, Lib.hid hl9, hb⟩
        rw [← e, List.length_append, flat1_len, List.length_take, HN.out, Nat.min_self]
        rfl)
      clear hl9
      go_wp2
      go_ret
      exact HF.out

end Go.Proofs.YteffijgajhngeaaDoor
