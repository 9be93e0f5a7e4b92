/- Part 2 of the proof: Fork, Know, Sep, Bytes, Num, Fix1, Lanes, OuM. -/
import Derived.WalkKit
import Derived.Laws.Rows
import Derived.Test.YtmmdnhfonifhdaaRows
import Derived.BigQuiet
import Derived.WalkSmall
import Derived.Deep.QuietTactic
import Derived.Test.YtmmdnhfonifhdaaM0OutlineCurves

namespace Go.Proofs.Ytmmdnhfonifhdaa
open Go Go.RowKit

section
variable {P : Program} {ops : Array Oper} {Q : Exit → Act → World → Prop} {md : Region.Mode} {I : World → Prop}

/-- What only reads may be taken as soon as it is ready; of what changes the world, whatever is ready. -/
inductive PlanF (P : Program) (md : Region.Mode) (ops : Array Oper) (Q : Exit → Act → World → Prop) (I : World → Prop) : Nat → Array Bool → Act → World → Prop
  | done {n : Nat} {listed : Array Bool} {a : Act} {w : World} (hr : Region.ready md ops listed = []) (h : Q .normal a w) : PlanF P md ops Q I n listed a w
  | take {n : Nat} {listed : Array Bool} {a : Act} {w : World} (i : Nat) (o : Oper) (v : Value) (hi : ops[i]? = some o) (hf : Region.free md ops listed i = true) (hr : i ∈ Region.ready md ops listed)
      (hs : StepI P ops I o v a) (h : PlanF P md ops Q I n (listed.setIfInBounds i true) (a.put o.dst v) w) : PlanF P md ops Q I (n + 1) listed a w
  | fork {n : Nat} {listed : Array Bool} {a : Act} {w : World} (o : Nat → Oper) (K : Nat → Value → World → Prop) (hne : Region.ready md ops listed ≠ []) (hi : ∀ i, i ∈ Region.ready md ops listed → ops[i]? = some (o i))
      (hs : ∀ i, i ∈ Region.ready md ops listed → StepO P ops (o i) a w (K i)) (hI : ∀ i, i ∈ Region.ready md ops listed → ∀ v w', K i v w' → I w')
      (h : ∀ i, i ∈ Region.ready md ops listed → ∀ v w', K i v w' → PlanF P md ops Q I n (listed.setIfInBounds i true) (a.put (o i).dst v) w') : PlanF P md ops Q I (n + 1) listed a w

theorem PlanF.first (hns : ∀ (i : Nat) (o : Oper) cs b, ops[i]? = some o → o.op ≠ .select cs b) {n : Nat} {listed : Array Bool} {a : Act} {w : World} (h : PlanF P md ops Q I n listed a w) : ∀ j, j ∈ Region.ready md ops listed →
    ∃ m oj, n = m + 1 ∧ ops[j]? = some oj ∧ ((∃ u, StepI P ops I oj u a ∧ PlanF P md ops Q I m (listed.setIfInBounds j true) (a.put oj.dst u) w) ∨
      (∃ K : Value → World → Prop, StepO P ops oj a w K ∧ (∀ v w', K v w' → I w') ∧ ∀ v w', K v w' → PlanF P md ops Q I m (listed.setIfInBounds j true) (a.put oj.dst v) w')) := by
  induction h with
  | done hr h => intro j hj; rw [hr] at hj; cases hj
  | fork o K hne hi hs hI h =>
    intro j hj
    exact ⟨_, o j, rfl, hi j hj, .inr ⟨K j, hs j hj, hI j hj, h j hj⟩⟩
  | @take n listed a w i o v hi hf hr hs h ih =>
    intro j hj
    by_cases hji : j = i
    · subst hji; exact ⟨_, o, rfl, hi, .inl ⟨v, hs, h⟩⟩
    · obtain ⟨m, oj, rfl, hoj, hh⟩ := ih j (ready_mono hj hji)
      obtain ⟨hjun, oj', hoj', hall⟩ := mem_ready.1 hj
      obtain rfl : oj' = oj := by rw [hoj] at hoj'; exact (Option.some.inj hoj').symm
      have hnot : ∀ e ∈ oj'.after, Region.binds md e = true → e.on ≠ i := fun e he hb heq => by
        have h1 := hall e he hb
        have h0 := (mem_ready.1 hr).1
        rw [heq] at h1
        rcases Nat.lt_or_ge i listed.size with h' | h'
        · simp [h'] at h0 h1; rw [h0] at h1; cases h1
        · simp [Array.getElem?_eq_none h'] at h1
      obtain ⟨h1, h2, h3⟩ := Oper.apart_spec (Region.free_spec hi hf j oj' hoj hji hjun hnot)
      refine ⟨m + 1, oj', rfl, hoj, ?_⟩
      have hst : ∀ u, StepI P ops I o v (a.put oj'.dst u) := fun u => hs.move (put_agree h3 a u)
      rcases hh with ⟨u, hsj, hp⟩ | ⟨K, hsj, hKI, hp⟩
      · refine .inl ⟨u, hsj.move fun t ht => (put_agree h1 a v t ht).symm, ?_⟩
        refine PlanF.take i o v hi (free_set hf) (ready_mono hr (Ne.symm hji)) (hst u) ?_
        rw [Array.setIfInBounds_comm _ _ hji, ← Act.put_comm a v u h2]
        exact hp
      · refine .inr ⟨K, hsj.move (hns j oj' · · hoj) fun t ht => (put_agree h1 a v t ht).symm, hKI, fun u w' hK => ?_⟩
        refine PlanF.take i o v hi (free_set hf) (ready_mono hr (Ne.symm hji)) (hst u) ?_
        rw [Array.setIfInBounds_comm _ _ hji, ← Act.put_comm a v u h2]
        exact hp u w' hK

theorem PlanF.any (hns : ∀ (i : Nat) (o : Oper) cs b, ops[i]? = some o → o.op ≠ .select cs b) : ∀ (fuel n : Nat) (listed : Array Bool) (a : Act) (w : World), DC md ops listed → n ≤ fuel → I w → PlanF P md ops Q I n listed a w → wpAny P md ops Q fuel listed a w
  | 0, n, listed, a, w, _, hn, hI, h => by
    cases h with
    | done hr h => exact ⟨hr, h⟩
    | take => omega
    | fork => omega
  | fuel + 1, n, listed, a, w, hd, hn, hI, h => by
    refine ⟨fun hr => ?_, fun j hj => ?_⟩
    · cases h with
      | done _ h => exact h
      | take i o v hi hf hr' => rw [hr] at hr'; cases hr'
      | fork o K hne => exact absurd hr hne
    · obtain ⟨m, oj, rfl, hoj, hh⟩ := h.first hns j hj
      rcases hh with ⟨u, hsj, hp⟩ | ⟨K, hsj, hKI, hp⟩
      · have hrec := PlanF.any hns fuel m _ _ w (hd.set hj) (by omega) hI hp
        unfold wpOp
        simp only [hoj]
        rcases hsj a w (fun _ _ => rfl) hI with ⟨hw, rfl⟩ | ⟨hw, hrun⟩
        · rw [hw]; exact hrec
        · rw [hw, if_pos rfl]
          refine .inl ?_
          unfold Oper.wp
          rw [hrun]
          exact hrec
      · exact StepO.wpOp hoj (hsj.mono fun v w' hK => PlanF.any hns fuel m _ _ w' (hd.set hj) (by omega) (hKI v w' hK) (hp v w' hK))

/-- Two lanes of operations that change the world. -/
inductive LanesP (P : Program) (ops : Array Oper) (E : Act → World → Prop) (I : World → Prop) : List Nat → List Nat → Act → World → Prop
  | nil {a : Act} {w : World} (h : E a w) : LanesP P ops E I [] [] a w
  | left {i : Nat} {A : List Nat} {a : Act} {w : World} (o : Oper) (K : Value → World → Prop) (hi : ops[i]? = some o) (hs : StepO P ops o a w K) (hI : ∀ v w', K v w' → I w') (h : ∀ v w', K v w' → LanesP P ops E I A [] (a.put o.dst v) w') : LanesP P ops E I (i :: A) [] a w
  | right {j : Nat} {B : List Nat} {a : Act} {w : World} (o : Oper) (K : Value → World → Prop) (hi : ops[j]? = some o) (hs : StepO P ops o a w K) (hI : ∀ v w', K v w' → I w') (h : ∀ v w', K v w' → LanesP P ops E I [] B (a.put o.dst v) w') : LanesP P ops E I [] (j :: B) a w
  | both {i j : Nat} {A B : List Nat} {a : Act} {w : World} (o o' : Oper) (K K' : Value → World → Prop) (hi : ops[i]? = some o) (hj : ops[j]? = some o') (hs : StepO P ops o a w K) (hs' : StepO P ops o' a w K') (hI : ∀ v w', K v w' → I w') (hI' : ∀ v w', K' v w' → I w')
      (h : ∀ v w', K v w' → LanesP P ops E I A (j :: B) (a.put o.dst v) w') (h' : ∀ v w', K' v w' → LanesP P ops E I (i :: A) B (a.put o'.dst v) w') : LanesP P ops E I (i :: A) (j :: B) a w

def quietGo (md : Region.Mode) (ops : Array Oper) : List Nat → Array Bool → Option (Array Bool)
  | [], listed => some listed
  | i :: r, listed => if Region.free md ops listed i && (Region.ready md ops listed).contains i then quietGo md ops r (listed.setIfInBounds i true) else none
def endGo (md : Region.Mode) (ops : Array Oper) (r : List Nat) (listed : Array Bool) : Bool := match quietGo md ops r listed with
  | some l => (Region.ready md ops l).isEmpty
  | none => false
def lanesGo (md : Region.Mode) (ops : Array Oper) (r : List Nat) : Nat → List Nat → List Nat → Array Bool → Bool
  | _, [], [], listed => endGo md ops r listed
  | f + 1, i :: A, [], listed => (Region.ready md ops listed == [i]) && lanesGo md ops r f A [] (listed.setIfInBounds i true)
  | f + 1, [], j :: B, listed => (Region.ready md ops listed == [j]) && lanesGo md ops r f [] B (listed.setIfInBounds j true)
  | f + 1, i :: A, j :: B, listed => ((Region.ready md ops listed == [i, j]) && (i != j) && lanesGo md ops r f A (j :: B) (listed.setIfInBounds i true) && lanesGo md ops r f (i :: A) B (listed.setIfInBounds j true)) || ((Region.ready md ops listed == [i]) && lanesGo md ops r f A (j :: B) (listed.setIfInBounds i true))
  | 0, _ :: _, _, _ => false
  | 0, [], _ :: _, _ => false
/-- What only reads, in one order. -/
def QuietL (P : Program) (ops : Array Oper) (E : Act → World → Prop) (I : World → Prop) : List Nat → Act → World → Prop
  | [], a, w => E a w
  | i :: r, a, w => ∃ o v, ops[i]? = some o ∧ StepI P ops I o v a ∧ QuietL P ops E I r (a.put o.dst v) w

theorem QuietL.plan {E : Act → World → Prop} {n : Nat} : ∀ (r : List Nat) (listed l : Array Bool) (a : Act) (w : World), quietGo md ops r listed = some l → (∀ a w, E a w → PlanF P md ops Q I n l a w) → QuietL P ops E I r a w → PlanF P md ops Q I (n + r.length) listed a w
  | [], listed, l, a, w, hg, hE, h => by
    simp only [quietGo, Option.some.injEq] at hg
    subst hg
    exact hE _ _ h
  | i :: r, listed, l, a, w, hg, hE, h => by
    obtain ⟨o, v, hi, hs, hr⟩ := h
    simp only [quietGo] at hg
    split at hg
    · rename_i hc
      rw [Bool.and_eq_true] at hc
      exact .take i o v hi hc.1 (by simpa using hc.2) hs (QuietL.plan r _ l _ w hg hE hr)
    · cases hg

theorem PlanF.more {n m : Nat} {listed : Array Bool} {a : Act} {w : World} (h : PlanF P md ops Q I n listed a w) : n ≤ m → PlanF P md ops Q I m listed a w := by
  induction h generalizing m with
  | done hr h => exact fun _ => .done hr h
  | take i o v hi hf hr hs h ih =>
    intro hm
    obtain ⟨k, rfl⟩ : ∃ k, m = k + 1 := ⟨m - 1, by omega⟩
    exact .take i o v hi hf hr hs (ih (by omega))
  | fork o K hne hi hs hI h ih =>
    intro hm
    obtain ⟨k, rfl⟩ : ∃ k, m = k + 1 := ⟨m - 1, by omega⟩
    exact .fork o K hne hi hs hI fun i hr v w' hK => ih i hr v w' hK (by omega)

theorem LanesP.plan {E : Act → World → Prop} {r : List Nat} (hE : ∀ (listed : Array Bool) a w, endGo md ops r listed = true → E a w → PlanF P md ops Q I r.length listed a w) : ∀ (f : Nat) (A B : List Nat) (listed : Array Bool) (a : Act) (w : World), lanesGo md ops r f A B listed = true → LanesP P ops E I A B a w → PlanF P md ops Q I (f + r.length) listed a w := by
  intro f
  induction f with
  | zero =>
    intro A B listed a w hg h
    cases h with
    | nil h => rw [Nat.zero_add]; exact hE _ _ _ (by simpa [lanesGo] using hg) h
    | left => simp [lanesGo] at hg
    | right => simp [lanesGo] at hg
    | both => simp [lanesGo] at hg
  | succ f ih =>
    intro A B listed a w hg h
    rw [Nat.add_right_comm]
    cases h with
    | nil h => exact (hE _ _ _ (by simpa [lanesGo] using hg) h).more (by omega)
    | @left i A _ _ o K hi hs hI h =>
      simp only [lanesGo, Bool.and_eq_true, beq_iff_eq] at hg
      refine .fork (fun _ => o) (fun _ => K) (by rw [hg.1]; simp) ?_ ?_ ?_ ?_
      all_goals
        intro k hk
        rw [hg.1] at hk
        obtain rfl : k = i := by simpa using hk
      · exact hi
      · exact hs
      · exact hI
      · exact fun v w' hK => ih _ _ _ _ _ hg.2 (h v w' hK)
    | @right i B _ _ o K hi hs hI h =>
      simp only [lanesGo, Bool.and_eq_true, beq_iff_eq] at hg
      refine .fork (fun _ => o) (fun _ => K) (by rw [hg.1]; simp) ?_ ?_ ?_ ?_
      all_goals
        intro k hk
        rw [hg.1] at hk
        obtain rfl : k = i := by simpa using hk
      · exact hi
      · exact hs
      · exact hI
      · exact fun v w' hK => ih _ _ _ _ _ hg.2 (h v w' hK)
    | @both i j A B _ _ o o' K K' hi hj hs hs' hI hI' h h' =>
      simp only [lanesGo, Bool.or_eq_true, Bool.and_eq_true, beq_iff_eq, bne_iff_ne, ne_eq] at hg
      rcases hg with ⟨⟨⟨hr, hne⟩, h1⟩, h2⟩ | ⟨hr, h1⟩
      · refine .fork (fun k => if k = i then o else o') (fun k => if k = i then K else K') (by rw [hr]; simp) ?_ ?_ ?_ ?_
        all_goals
          intro k hk
          rw [hr] at hk
          have hk2 : k = i ∨ k = j := by simpa using hk
          rcases hk2 with rfl | rfl
        · simpa using hi
        · rw [if_neg (Ne.symm hne)]; exact hj
        · simpa using hs
        · simp only [if_neg (Ne.symm hne)]; exact hs'
        · simpa using hI
        · simp only [if_neg (Ne.symm hne)]; exact hI'
        · simp only [if_true]; exact fun v w' hK => ih _ _ _ _ _ h1 (h v w' hK)
        · simp only [if_neg (Ne.symm hne)]; exact fun v w' hK => ih _ _ _ _ _ h2 (h' v w' hK)
      · refine .fork (fun _ => o) (fun _ => K) (by rw [hr]; simp) ?_ ?_ ?_ ?_
        all_goals
          intro k hk
          rw [hr] at hk
          obtain rfl : k = i := by simpa using hk
        · exact hi
        · exact hs
        · exact hI
        · exact fun v w' hK => ih _ _ _ _ _ h1 (h v w' hK)

def lanesOk (md : Region.Mode) (ops : Array Oper) (q A B r : List Nat) : Bool := Region.noSelect ops && decide (A.length + B.length + r.length + q.length ≤ ops.size) && match quietGo md ops q (Array.replicate ops.size false) with
  | some l => lanesGo md ops r (A.length + B.length) A B l
  | none => false

/-- THE LAW: first what only reads (q), then the two lanes, then what only reads (r). -/
theorem wp_region_lanes {id : Nat} {a : Act} {w : World} (I : World → Prop) (q A B r : List Nat) (hm : P.follows .mixedOrders = true) (hok : lanesOk .any ops q A B r = true) (hI : I w.drew)
    (h : QuietL P ops (fun a w => LanesP P ops (fun a w => QuietL P ops (Q .normal) I r a w) I A B a w) I q a w.drew) : (Code.region id ops true).wp P Q a w := by
  refine wp_region_any hm ?_
  unfold lanesOk at hok
  simp only [Bool.and_eq_true, decide_eq_true_eq] at hok
  obtain ⟨⟨h1, h2⟩, h3⟩ := hok
  split at h3
  · rename_i l hl
    refine PlanF.any (fun i o cs b hi => Region.noSelect_spec h1 i o cs b hi) ops.size (A.length + B.length + r.length + q.length) _ a w.drew (DC.none _) h2 hI ?_
    refine QuietL.plan q _ l a w.drew hl (fun a w hL => ?_) h
    refine LanesP.plan (fun listed a w hg hE => ?_) _ A B l a w h3 hL
    unfold endGo at hg
    split at hg
    · rename_i l' hl'
      have := QuietL.plan (n := 0) (Q := Q) r listed l' a w hl' (fun a w hq => .done (by simpa using hg) hq) hE
      rwa [Nat.zero_add] at this
    · cases hg
  · cases h3

variable {E : Act → World → Prop} {i : Nat} {r : List Nat} {o : Oper} {a : Act} {w : World}
theorem QuietL.val {v : Value} (hi : ops[i]? = some o) (hns : ∀ cs b, o.op ≠ .select cs b) (hw : Region.wanted o (yielded ops a.tmps) = true) (h : ∀ w, I w → (execOp a.eval o).run P w = .ok (.value v) w)
    (hr : QuietL P ops E I r (a.put o.dst v) w) : QuietL P ops E I (i :: r) a w :=
  ⟨o, v, hi, fun a' w' hag hI => .inr ⟨by rw [wanted_agree o hag]; exact hw, by rw [exec_agree o hns hag]; exact h w' hI⟩, hr⟩
theorem QuietL.nil (h : E a w) : QuietL P ops E I [] a w := h
end

end Go.Proofs.Ytmmdnhfonifhdaa

namespace Go.Proofs.Ytmmdnhfonifhdaa
open Go Go.RowKit

/-- Cells from o on of block b. -/
def CellsAt (w : World) (b : Nat) : Nat → List Value → Prop
  | _, [] => True
  | o, v :: vs => w.cell? ⟨b, o, none⟩ = some v ∧ CellsAt w b (o + 1) vs

/-- Blocks that stand and are not frozen, with what their first cells hold. -/
def KB (w : World) : List (Nat × List Value) → Prop
  | [] => True
  | (b, vs) :: r => b < w.heap.size ∧ (∀ o, w.frozen? ⟨b, o, none⟩ = false) ∧ CellsAt w b 0 vs ∧ KB w r

theorem CellsAt.next {w w1 : World} {b : Nat} (hb : Below w.heap.size w w1) (h : b < w.heap.size) : ∀ {vs : List Value} {o : Nat}, CellsAt w b o vs → CellsAt w1 b o vs
  | [], _, _ => trivial
  | _ :: _, o, H => ⟨(hb.cell (p := ⟨b, o, none⟩) h).trans H.1, CellsAt.next hb h H.2⟩

theorem KB.next {w w1 : World} (hb : Below w.heap.size w w1) : ∀ {l : List (Nat × List Value)}, KB w l → KB w1 l
  | [], _ => trivial
  | _ :: _, H => ⟨Nat.lt_of_lt_of_le H.1 hb.size, fun o => (hb.frozen (p := ⟨_, o, none⟩) H.1).trans (H.2.1 o), H.2.2.1.next hb H.1, H.2.2.2.next hb⟩

theorem cellsAt_new (w : World) (vs : Array Value) (T : TypeId) : ∀ (l : List Value) (o : Nat), vs.toList.drop o = l → CellsAt (w.alloc (.cells vs T)) w.heap.size o l
  | [], _, _ => trivial
  | v :: l, o, h => by
    have hv : vs[o]? = some v := by
      have h0 := congrArg (fun l => l[0]?) h
      simpa using h0
    refine ⟨?_, cellsAt_new w vs T l (o + 1) (by rw [← List.drop_drop, h]; rfl)⟩
    rw [World.cell?_alloc_new]; exact hv

/-- From w0 on nothing of what was there has turned, and this is known of blocks of w. -/
def Known (w0 w : World) (l : List (Nat × List Value)) : Prop := Below w0.heap.size w0 w ∧ KB w l

theorem Known.start (w : World) : Known w w [] := ⟨Below.refl _ _, trivial⟩
theorem Known.next {w0 w w1 : World} {l : List (Nat × List Value)} (H : Known w0 w l) (hb : Below w.heap.size w w1) : Known w0 w1 l := ⟨H.1.trans (hb.mono H.1.size), H.2.next hb⟩
theorem Known.drew {w0 w : World} {l : List (Nat × List Value)} (H : Known w0 w l) : Known w0 w.drew l := H.next ((Below.refl _ _).drew)
theorem Known.alloc {w0 w : World} {l : List (Nat × List Value)} (H : Known w0 w l) (o : Obj) : Known w0 (w.alloc o) l := H.next ((Below.refl _ _).alloc (Nat.le_refl _) o)
theorem Known.new {w0 w : World} {l : List (Nat × List Value)} (H : Known w0 w l) (vs : Array Value) (T : TypeId) : Known w0 (w.alloc (.cells vs T)) ((w.heap.size, vs.toList) :: l) :=
  ⟨(H.alloc _).1, by simp, fun o => World.frozen?_alloc_new w vs T o, cellsAt_new w vs T _ 0 rfl, (H.alloc _).2⟩
theorem Known.drop {w0 w : World} {l : List (Nat × List Value)} {x : Nat × List Value} (H : Known w0 w (x :: l)) : Known w0 w l := ⟨H.1, H.2.2.2.2⟩

/-- A store into a block that stands behind all others that are known: they stay. -/
theorem KB.below {B : Nat} {w w1 : World} (hb : Below B w w1) : ∀ {l : List (Nat × List Value)}, (∀ x ∈ l, x.1 < B) → KB w l → KB w1 l
  | [], _, _ => trivial
  | (b, vs) :: r, hl, H => by
    have h : b < B := hl (b, vs) (List.mem_cons_self)
    refine ⟨Nat.lt_of_lt_of_le H.1 hb.size, fun o => (hb.frozen (p := ⟨b, o, none⟩) h).trans (H.2.1 o), ?_, KB.below hb (fun x hx => hl x (List.mem_cons_of_mem _ hx)) H.2.2.2⟩
    have go : ∀ (vs : List Value) (o : Nat), CellsAt w b o vs → CellsAt w1 b o vs := fun vs => by
      induction vs with
      | nil => intro _ _; trivial
      | cons v vs ih => intro o H; exact ⟨(hb.cell (p := ⟨b, o, none⟩) h).trans H.1, ih _ H.2⟩
    exact go vs 0 H.2.2.1

/-- Four stores into a block. -/
theorem Known.put4 {w0 w8 wr : World} {l : List (Nat × List Value)} {b : Nat} {z0 z1 z2 z3 : Value} (I : Known w0 w8 l) (hb : w8.heap.size ≤ b) (B : Below w8.heap.size w8 wr)
    (hz : b < wr.heap.size) (hf : ∀ o, wr.frozen? ⟨b, o, none⟩ = false) (hc : CellsAt wr b 0 [z0, z1, z2, z3]) (v0 v1 v2 v3 : Value) :
    Known w0 ((((wr.setCell ⟨b, 0, none⟩ v0).setCell ⟨b, 1, none⟩ v1).setCell ⟨b, 2, none⟩ v2).setCell ⟨b, 3, none⟩ v3) ((b, [v0, v1, v2, v3]) :: l) := by
  have K := I.next ((((B.setCell (p := ⟨b, 0, none⟩) hb v0).setCell (p := ⟨b, 1, none⟩) hb v1).setCell (p := ⟨b, 2, none⟩) hb v2).setCell (p := ⟨b, 3, none⟩) hb v3)
  obtain ⟨c0, c1, c2, c3, _⟩ := hc
  simp only [Nat.zero_add, Nat.reduceAdd] at c0 c1 c2 c3
  refine ⟨K.1, ?_, fun o => ?_, ⟨?_, ?_, ?_, ?_, trivial⟩, K.2⟩
  · simpa using hz
  · simp [hf]
  all_goals go_simp

end Go.Proofs.Ytmmdnhfonifhdaa

namespace Go.Proofs.Ytmmdnhfonifhdaa
open Go Go.RowKit

/-- w1 is w but for the blocks of fp, and new ones. -/
structure Only (w w1 : World) (fp : List Nat) : Prop where
  os : w1.os = w.os
  tape : w1.tape = w.tape
  output : w1.output = w.output
  size : w.heap.size ≤ w1.heap.size
  block : ∀ b, b < w.heap.size → b ∉ fp → w1.heap[b]? = w.heap[b]?

theorem Only.refl (w : World) (fp : List Nat) : Only w w fp := ⟨rfl, rfl, rfl, Nat.le_refl _, fun _ _ _ => rfl⟩
theorem Only.of_below {w w1 : World} (h : Below w.heap.size w w1) (fp : List Nat) : Only w w1 fp := ⟨h.os, h.tape, h.output, h.size, fun b hb _ => h.block b hb⟩
theorem Only.to_below {w w1 : World} {fp : List Nat} (h : Only w w1 fp) {B : Nat} (hB : B ≤ w.heap.size) (hf : ∀ b ∈ fp, B ≤ b) : Below B w w1 :=
  ⟨h.os, h.tape, h.output, h.size, fun b hb => h.block b (by omega) fun hm => by have := hf b hm; omega⟩
theorem Only.nil_below {w w1 : World} (h : Only w w1 []) : Below w.heap.size w w1 := h.to_below (Nat.le_refl _) fun _ hb => (nomatch hb)
theorem Only.trans {w a c : World} {fp fp1 : List Nat} (h : Only w a fp) (k : Only a c fp1) (hf : ∀ b ∈ fp1, b ∈ fp ∨ w.heap.size ≤ b) : Only w c fp :=
  ⟨k.os.trans h.os, k.tape.trans h.tape, k.output.trans h.output, Nat.le_trans h.size k.size, fun b hb hn => (k.block b (Nat.lt_of_lt_of_le hb h.size) fun hm => by
    rcases hf b hm with h1 | h1
    · exact hn h1
    · omega).trans (h.block b hb hn)⟩
theorem Only.more {w a : World} {fp fp1 : List Nat} (h : Only w a fp) (hs : ∀ b ∈ fp, b ∈ fp1 ∨ w.heap.size ≤ b) : Only w a fp1 :=
  ⟨h.os, h.tape, h.output, h.size, fun b hb hn => h.block b hb fun hm => by
    rcases hs b hm with h1 | h1
    · exact hn h1
    · omega⟩
theorem Only.then_below {w a c : World} {fp : List Nat} (h : Only w a fp) (k : Below a.heap.size a c) : Only w c fp := h.trans (Only.of_below k []) fun _ hb => (nomatch hb)
theorem Only.alloc {w a : World} {fp : List Nat} (h : Only w a fp) (o : Obj) : Only w (a.alloc o) fp := h.then_below ((Below.refl _ _).alloc (Nat.le_refl _) o)
theorem Only.drew {w a : World} {fp : List Nat} (h : Only w a fp) : Only w a.drew fp := h.then_below ((Below.refl _ _).drew)
theorem Only.set {w a : World} {fp : List Nat} (h : Only w a fp) {p : Addr} (hp : p.block ∈ fp ∨ w.heap.size ≤ p.block) (v : Value) : Only w (a.setCell p v) fp :=
  ⟨h.os, h.tape, h.output, by simpa using h.size, fun b hb hn => by
    rw [Below.heap_setCell a p v b (fun e => by subst e; rcases hp with h1 | h1; exact hn h1; omega)]
    exact h.block b hb hn⟩
theorem Only.grown {w a c : World} {fp : List Nat} {row : Option Nat} (h : Only w a fp) (hg : a.grownBy c row) (hr : ∀ b, row = some b → b ∈ fp ∨ w.heap.size ≤ b) : Only w c fp :=
  ⟨hg.os.trans h.os, hg.tape.trans h.tape, hg.output.trans h.output, Nat.le_trans h.size hg.size, fun b hb hn => (hg.block b (Nat.lt_of_lt_of_le hb h.size) fun e => by
    rcases hr b e.symm with h1 | h1
    · exact hn h1
    · omega).trans (h.block b hb hn)⟩

/-- Block p is just these cells, none frozen. -/
def Blk (w : World) (p : Nat) (T : TypeId) (cs : Array Value) : Prop := w.heap[p]? = some (.cells cs T (0, 0))

theorem Blk.lt {w : World} {p : Nat} {T : TypeId} {cs : Array Value} (h : Blk w p T cs) : p < w.heap.size := by
  rcases Nat.lt_or_ge p w.heap.size with h1 | h1
  · exact h1
  · unfold Blk at h; rw [Array.getElem?_eq_none h1] at h; cases h
theorem Blk.cell {w : World} {p : Nat} {T : TypeId} {cs : Array Value} (h : Blk w p T cs) (j : Nat) : w.cell? ⟨p, j, none⟩ = cs[j]? := cell_of_row w p j cs T (0, 0) h
theorem Blk.frozen {w : World} {p : Nat} {T : TypeId} {cs : Array Value} (h : Blk w p T cs) (j : Nat) : w.frozen? ⟨p, j, none⟩ = false := by
  unfold Blk at h; simp [World.frozen?, h]
theorem Blk.new (w : World) (T : TypeId) (cs : Array Value) : Blk (w.alloc (.cells cs T)) w.heap.size T cs := heap_alloc_new w _
theorem Blk.only {w w1 : World} {p : Nat} {T : TypeId} {cs : Array Value} {fp : List Nat} (h : Blk w p T cs) (k : Only w w1 fp) (hn : p ∉ fp) : Blk w1 p T cs := (k.block p h.lt hn).trans h
theorem Blk.below {w w1 : World} {p : Nat} {T : TypeId} {cs : Array Value} (h : Blk w p T cs) (k : Below w.heap.size w w1) : Blk w1 p T cs := (k.block p h.lt).trans h
theorem Blk.set {w : World} {p : Nat} {T : TypeId} {cs : Array Value} (h : Blk w p T cs) (j : Nat) (v : Value) : Blk (w.setCell ⟨p, j, none⟩ v) p T (cs.setIfInBounds j v) := by
  unfold Blk at *; simp [World.setCell, Array.getElem?_modify, h]
theorem Blk.other {w : World} {p : Nat} {T : TypeId} {cs : Array Value} (h : Blk w p T cs) {q : Addr} (hq : p ≠ q.block) (v : Value) : Blk (w.setCell q v) p T cs := (Below.heap_setCell w q v p hq).trans h
theorem Blk.kb {w : World} {p : Nat} {T : TypeId} {cs : Array Value} (h : Blk w p T cs) : KB w [(p, cs.toList)] := by
  refine ⟨h.lt, fun o => h.frozen o, ?_, trivial⟩
  have go : ∀ (l : List Value) (o : Nat), cs.toList.drop o = l → CellsAt w p o l := by
    intro l
    induction l with
    | nil => intro _ _; trivial
    | cons v l ih =>
      intro o ho
      refine ⟨?_, ih (o + 1) (by rw [← List.drop_drop, ho]; rfl)⟩
      rw [h.cell]
      have h0 := congrArg (fun l => l[0]?) ho
      simpa using h0
  exact go _ 0 rfl

/-- The block of a slice that the call owns. -/
def blk (v : Value) : List Nat := v.ownBlock.toList

theorem own_only {w w1 : World} {base : Nat} {e : TypeId} {size n : Nat} {v : Value} {xs : List Value} {fp : List Nat} (h : w.ownsRow base e size v n xs) (k : Only w w1 fp) (hn : ∀ b ∈ blk v, b ∉ fp) : w1.ownsRow base e size v n xs := by
  refine ⟨h.1, ?_⟩
  have hlt := h.lt
  rcases h.2 with h1 | ⟨g, cap, cur, rfl, h2, h3, h4⟩
  · exact .inl h1
  · exact .inr ⟨g, cap, cur, rfl, h2, (k.block g (hlt g rfl).2 (hn g (by simp [blk, Value.ownBlock]))).trans h3, h4⟩

theorem lists_only {w w1 : World} {B : Nat} {A : Option Addr} {xs : List Value} {fp : List Nat} (h : Lists w B A xs) (hB : B ≤ w.heap.size) (k : Only w w1 fp) (hn : ∀ a, A = some a → xs ≠ [] → a.block ∉ fp) : Lists w1 B A xs :=
  ⟨h.nil, fun a ha j u hu => by
    have hx : xs ≠ [] := by intro e; subst e; simp at hu
    have hb : w1.heap[(a.add j).block]? = w.heap[(a.add j).block]? := by
      rw [addr_add_block]
      exact k.block _ (Nat.lt_of_lt_of_le (h.lt a ha hx) hB) (hn a ha hx)
    exact (World.cell?_of_block hb).trans (h.cell a ha j u hu), h.lt⟩

theorem blk_lt {w : World} {base : Nat} {e : TypeId} {size n : Nat} {v : Value} {xs : List Value} (h : w.ownsRow base e size v n xs) : ∀ b ∈ blk v, b < w.heap.size := by
  intro b hb
  simp only [blk, Option.mem_toList] at hb
  exact (h.lt b hb).2

end Go.Proofs.Ytmmdnhfonifhdaa

namespace Go.Proofs.Ytmmdnhfonifhdaa
open Go Go.RowKit

def zero8 : Value := .int .u8 0

/-- Data from a place on, with so many zeros ahead of each gap's place. -/
def expand (D : List Value) : Nat → List (Nat × Nat) → List Value
  | i, [] => D.drop i
  | i, (a, z) :: G => (D.drop i).take (a - i) ++ List.replicate z zero8 ++ expand D a G

/-- The gaps' places rise, and are none beyond n; none is empty. -/
def GapsOk : Nat → List (Nat × Nat) → Nat → Prop
  | i, [], n => i ≤ n
  | i, (a, z) :: G, n => i ≤ a ∧ 1 ≤ z ∧ GapsOk a G n

def gapSum (G : List (Nat × Nat)) : Nat := (G.map (·.2)).sum

theorem GapsOk.le : ∀ {G : List (Nat × Nat)} {i n : Nat}, GapsOk i G n → i ≤ n
  | [], _, _, h => h
  | _ :: _, _, _, h => Nat.le_trans h.1 h.2.2.le
theorem GapsOk.more : ∀ {G : List (Nat × Nat)} {i n m : Nat}, GapsOk i G n → n ≤ m → GapsOk i G m
  | [], _, _, _, h, hm => Nat.le_trans h hm
  | _ :: _, _, _, _, h, hm => ⟨h.1, h.2.1, h.2.2.more hm⟩
theorem GapsOk.snoc {z : Nat} (hz : 1 ≤ z) : ∀ {G : List (Nat × Nat)} {i n : Nat}, GapsOk i G n → GapsOk i (G ++ [(n, z)]) n
  | [], _, _, h => ⟨h, hz, Nat.le_refl _⟩
  | _ :: _, _, _, h => ⟨h.1, h.2.1, GapsOk.snoc hz h.2.2⟩
theorem GapsOk.count : ∀ {G : List (Nat × Nat)} {i n : Nat}, GapsOk i G n → G.length ≤ gapSum G
  | [], _, _, _ => Nat.zero_le _
  | (a, z) :: G, _, _, h => by
    have := h.2.2.count
    have h1 := h.2.1
    simp only [gapSum, List.map_cons, List.sum_cons, List.length_cons] at *
    omega

theorem expand_data (D E : List Value) : ∀ (G : List (Nat × Nat)) (i : Nat), GapsOk i G D.length → expand (D ++ E) i G = expand D i G ++ E
  | [], i, h => by simp only [expand]; rw [List.drop_append_of_le_length h]
  | (a, z) :: G, i, h => by
    have hle := h.2.2.le
    simp only [expand]
    rw [expand_data D E G a h.2.2, List.drop_append_of_le_length (by have := h.1; omega), List.take_append_of_le_length (by rw [List.length_drop]; omega)]
    simp only [List.append_assoc]

theorem expand_gap (D : List Value) (z : Nat) : ∀ (G : List (Nat × Nat)) (i : Nat), GapsOk i G D.length → expand D i (G ++ [(D.length, z)]) = expand D i G ++ List.replicate z zero8
  | [], i, h => by
    simp only [List.nil_append, expand]
    rw [List.take_of_length_le (by rw [List.length_drop]; omega), List.drop_eq_nil_of_le (Nat.le_refl _)]
    simp
  | (a, y) :: G, i, h => by
    simp only [List.cons_append, expand]
    rw [expand_gap D z G a h.2.2]
    simp only [List.append_assoc]

theorem expand_len (D : List Value) : ∀ (G : List (Nat × Nat)) (i : Nat), GapsOk i G D.length → (expand D i G).length = D.length - i + gapSum G
  | [], i, _ => by simp [expand, gapSum]
  | (a, z) :: G, i, h => by
    have hle := h.2.2.le
    have h1 := h.1
    simp only [expand, List.length_append, List.length_replicate, List.length_take, List.length_drop]
    rw [expand_len D G a h.2.2]
    simp only [gapSum, List.map_cons, List.sum_cons]
    omega

/-- The cells of gaps. -/
def gapCells : List (Nat × Nat) → List Value
  | [] => []
  | (a, z) :: G => .int .i64 (a : Int) :: .int .i64 (z : Int) :: gapCells G
theorem gapCells_len : ∀ G : List (Nat × Nat), (gapCells G).length = G.length * 2
  | [] => rfl
  | _ :: G => by simp only [gapCells, List.length_cons, gapCells_len G]; omega
theorem gapCells_snoc (a z : Nat) : ∀ G : List (Nat × Nat), gapCells (G ++ [(a, z)]) = gapCells G ++ [.int .i64 (a : Int), .int .i64 (z : Int)]
  | [] => rfl
  | (_, _) :: G => by simp only [List.cons_append, gapCells, gapCells_snoc a z G]
theorem gapCells_at : ∀ (G : List (Nat × Nat)) (k : Nat) (a z : Nat), G[k]? = some (a, z) → (gapCells G)[k * 2]? = some (.int .i64 (a : Int)) ∧ (gapCells G)[k * 2 + 1]? = some (.int .i64 (z : Int))
  | [], k, a, z, h => by simp at h
  | (b, y) :: G, 0, a, z, h => by
    simp only [List.getElem?_cons_zero, Option.some.injEq, Prod.mk.injEq] at h
    obtain ⟨rfl, rfl⟩ := h
    exact ⟨rfl, rfl⟩
  | (b, y) :: G, k + 1, a, z, h => by
    have := gapCells_at G k a z (by simpa using h)
    rw [show (k + 1) * 2 = k * 2 + 1 + 1 by omega]
    exact this

/-- Each is a byte. -/
def Bytes8 (l : List Value) : Prop := ∀ u ∈ l, ∃ x : Nat, x < 256 ∧ u = .int .u8 (x : Int)
theorem Bytes8.one {l : List Value} (h : Bytes8 l) : ∀ u ∈ l, u.oneCell' = true := fun u hu => by
  obtain ⟨x, _, rfl⟩ := h u hu
  rfl
theorem Bytes8.append {l m : List Value} (h : Bytes8 l) (k : Bytes8 m) : Bytes8 (l ++ m) := fun u hu => by
  rcases List.mem_append.1 hu with h1 | h1
  · exact h u h1
  · exact k u h1
theorem Bytes8.zeros (n : Nat) : Bytes8 (List.replicate n zero8) := fun u hu => ⟨0, by omega, (List.mem_replicate.1 hu).2⟩

theorem own_ne {w : World} {base p : Nat} {e T : TypeId} {size n : Nat} {v : Value} {xs : List Value} {cs : Array Value} (h : w.ownsRow base e size v n xs) (hb : Blk w p T cs) (hne : e ≠ T) : p ∉ blk v := by
  intro hm
  rcases h.2 with ⟨rfl, _⟩ | ⟨g, cap, cur, rfl, _, hh, _⟩
  · simp [blk, Value.ownBlock] at hm
  · have : p = g := by simpa [blk, Value.ownBlock] using hm
    subst this
    unfold Blk at hb
    rw [hh] at hb
    injection hb with hb
    injection hb with _ ht
    exact hne ht
theorem own_own {w : World} {base base1 : Nat} {e e1 : TypeId} {size n size1 n1 : Nat} {v v1 : Value} {xs xs1 : List Value} (h : w.ownsRow base e size v n xs) (h1 : w.ownsRow base1 e1 size1 v1 n1 xs1) (hne : e ≠ e1) : ∀ b ∈ blk v, b ∉ blk v1 := by
  intro b hb hm
  rcases h.2 with ⟨rfl, _⟩ | ⟨g, cap, cur, rfl, _, hh, _⟩
  · simp [blk, Value.ownBlock] at hb
  · rcases h1.2 with ⟨rfl, _⟩ | ⟨g1, cap1, cur1, rfl, _, hh1, _⟩
    · simp [blk, Value.ownBlock] at hm
    · have e1 : b = g := by simpa [blk, Value.ownBlock] using hb
      have e2 : b = g1 := by simpa [blk, Value.ownBlock] using hm
      subst e1 e2
      rw [hh] at hh1
      injection hh1 with hh1
      injection hh1 with _ ht
      exact hne ht

end Go.Proofs.Ytmmdnhfonifhdaa

namespace Go.Proofs.Ytmmdnhfonifhdaa

/-- may a number be? -/
def mayB (x : Int) : Bool := decide (-2147483648 ≤ x) && decide (x ≤ 2147483648)

/-- the nearest whole number to a quotient -/
def near (a b : Int) : Int := if b < 0 then (2 * (-a) + (-b)) / (2 * (-b)) else (2 * a + b) / (2 * b)

theorem div_unique {a b q : Int} (h1 : b * q ≤ a) (h2 : a < b * q + b) : a / b = q := by
  have hb : 0 < b := by omega
  have h3 : a = b * q + (a - b * q) := by omega
  rw [h3, Int.add_comm, Int.add_mul_ediv_left _ _ (by omega : b ≠ 0), Int.ediv_eq_zero_of_lt (by omega) (by omega)]
  omega

theorem tdiv_floor {a b : Int} (hb : 0 < b) (ha : a < 0) (hm : ¬ a % b = 0) : a.tdiv b - 1 = a / b ∧ ¬ a.tmod b = 0 ∧ a.tdiv b ≤ 0 ∧ a < a.tdiv b  := by
  have hd : ¬ b ∣ a := fun h => hm (Int.emod_eq_zero_of_dvd h)
  have e := @Int.tdiv_eq_ediv a b
  rw [if_neg (by intro h; rcases h with h | h; omega; exact hd h), Int.sign_eq_one_of_pos hb] at e
  have h4 : a / b < 0 := Int.ediv_neg_of_neg_of_pos ha hb
  have h5 : a ≤ a / b := Int.le_ediv_of_mul_le hb (by have := Int.mul_le_mul_of_nonpos_left (a := a) (b := b) (c := 1) (by omega) (by omega); omega)
  exact ⟨by omega, fun h => hd (Int.dvd_of_tmod_eq_zero h), by omega, by omega⟩
theorem tdiv_whole {a b : Int} (hm : a % b = 0) : a.tdiv b = a / b ∧ a.tmod b = 0 := by
  have hd : b ∣ a := Int.dvd_of_emod_eq_zero hm
  have e := @Int.tdiv_eq_ediv a b
  rw [if_pos (.inr hd)] at e
  exact ⟨by omega, Int.tmod_eq_zero_of_dvd hd⟩

theorem near_pos {a b q : Int} (hb : 0 < b) (h1 : 2 * (b * q) ≤ 2 * a + b) (h2 : 2 * a + b < 2 * (b * q) + 2 * b) : near a b = q := by
  unfold near; rw [if_neg (by omega)]
  exact div_unique (by rw [Int.mul_assoc]; exact h1) (by rw [Int.mul_assoc]; exact h2)

theorem near_neg {a b q : Int} (hb : b < 0) (h1 : 2 * (b * q) ≥ 2 * a + b) (h2 : 2 * a + b > 2 * (b * q) + 2 * b) : near a b = q := by
  unfold near; rw [if_pos hb]
  exact div_unique (by rw [Int.mul_assoc, Int.neg_mul]; omega) (by rw [Int.mul_assoc, Int.neg_mul]; omega)

theorem near_same {a b n d : Int} (hn : max a (-a) = n) (hd : max b (-b) = d) (h0 : 0 < d) (hs : (!decide (a < 0) == decide (b < 0)) = false) :
    near a b = n / d + if d ≤ 2 * (n % d) then 1 else 0 := by
  have e := Int.mul_ediv_add_emod n d
  have r0 : 0 ≤ n % d := Int.emod_nonneg n (by omega)
  have r1 : n % d < d := Int.emod_lt_of_pos n h0
  by_cases hb : b < 0
  · have ha : a < 0 := by simp [hb] at hs; exact hs
    obtain rfl : b = -d := by omega
    obtain rfl : a = -n := by omega
    clear hn hd hs
    apply near_neg hb <;> (split <;> simp only [Int.neg_mul, Int.mul_add, Int.mul_one, Int.add_zero] <;> omega)
  · have ha : ¬ a < 0 := by simp [hb] at hs; omega
    obtain rfl : b = d := by omega
    obtain rfl : a = n := by omega
    clear hn hd hs
    apply near_pos h0 <;> (split <;> simp only [Int.mul_add, Int.mul_one, Int.add_zero] <;> omega)

theorem near_diff {a b n d : Int} (hn : max a (-a) = n) (hd : max b (-b) = d) (h0 : 0 < d) (hs : (!decide (a < 0) == decide (b < 0)) = true) :
    near a b = -(n / d + if d < 2 * (n % d) then 1 else 0) := by
  have e := Int.mul_ediv_add_emod n d
  have r0 : 0 ≤ n % d := Int.emod_nonneg n (by omega)
  have r1 : n % d < d := Int.emod_lt_of_pos n h0
  by_cases hb : b < 0
  · have ha : ¬ a < 0 := by simp [hb] at hs; omega
    obtain rfl : b = -d := by omega
    obtain rfl : a = n := by omega
    clear hn hd hs
    apply near_neg hb <;> (split <;> simp only [Int.neg_mul, Int.mul_neg, Int.neg_neg, Int.mul_add, Int.mul_one, Int.add_zero] <;> omega)
  · have ha : a < 0 := by simp [hb] at hs; omega
    obtain rfl : b = d := by omega
    obtain rfl : a = -n := by omega
    clear hn hd hs
    apply near_pos h0 <;> (split <;> simp only [Int.mul_neg, Int.mul_add, Int.mul_one, Int.add_zero] <;> omega)

theorem mul_bound {a b : Int} (A B : Nat) (h1 : -(A : Int) ≤ a) (h2 : a ≤ A) (h3 : -(B : Int) ≤ b) (h4 : b ≤ B) : -((A * B : Nat) : Int) ≤ a * b ∧ a * b ≤ ((A * B : Nat) : Int) := by
  have h : (a * b).natAbs ≤ A * B := by rw [Int.natAbs_mul]; exact Nat.mul_le_mul (by omega) (by omega)
  omega

theorem near_spec (a b : Int) (hb : 1 ≤ b) : -b ≤ 2 * (a - near a b * b) ∧ 2 * (a - near a b * b) < b := by
  unfold near
  rw [if_neg (by omega)]
  have h := Int.mul_ediv_add_emod (2 * a + b) (2 * b)
  have h1 := Int.emod_nonneg (2 * a + b) (show 2 * b ≠ 0 by omega)
  have h2 := Int.emod_lt_of_pos (2 * a + b) (show 0 < 2 * b by omega)
  rw [Int.mul_assoc, Int.mul_comm b] at h
  omega

end Go.Proofs.Ytmmdnhfonifhdaa

namespace Go.Proofs.Ytmmdnhfonifhdaa
open Go.RowKit

theorem ret_int {k : IntKind} {a b : Int} (h : a = b) : Ending.returned (.int k a) = .returned (.int k b) := by rw [h]

theorem may_ref (x : Int) (w : World) : Calls Try.prog 47 #[.int .i64 x] w fun e w' => e = .returned (.bool (mayB x)) ∧ w = w' := by
  unfold mayB
  by_cases h1 : -2147483648 ≤ x <;> by_cases h2 : x ≤ 2147483648
  all_goals
    go_enter Try.func47, Try.ntmps47
    go_wp2
    go_ret
    simp [h1, h2]

theorem may_any (x : Int) (w : World) : Calls Try.prog 45 #[.int .i64 x] w fun e w' => e = .returned (.bool (mayB x)) ∧ w = w' := by
  unfold mayB
  by_cases h1 : -2147483648 ≤ x <;> by_cases h2 : x ≤ 2147483648
  all_goals
    go_enter Try.func45, Try.ntmps45
    go_wp2
    go_ret
    simp [h1, h2]

theorem floor_ref (a b : Int) (w : World) (hb : 0 < b) (ha : -9223372036854775808 ≤ a) (ha2 : a ≤ 9223372036854775807) :
    Calls Try.prog 67 #[.int .i64 a, .int .i64 b] w fun e w' => e = .returned (.int .i64 (a / b)) ∧ w = w' := by
  by_cases h2 : a < 0
  · by_cases h1 : a % b = 0
    · obtain ⟨e1, e2⟩ := tdiv_whole h1
      have H : Hid (a.tdiv b = a / b) := e1
      have e3 : (a.tmod b != 0) = false := by simp [e2]
      clear e1 h1 e2
      go_enter Try.func67, Try.ntmps67
      go_wp2
      go_ret
      exact ⟨ret_int H.out, rfl⟩
    · obtain ⟨e1, e2, e4, e5⟩ := tdiv_floor hb h2 h1
      have H : Hid (a.tdiv b - 1 = a / b) := e1
      have e3 : (a.tmod b != 0) = true := by simp [e2]
      have e6 : -9223372036854775808 ≤ a.tdiv b - 1 := by omega
      clear e1 h1
      go_enter Try.func67, Try.ntmps67
      go_wp2
      go_ret
      exact ⟨ret_int H.out, rfl⟩
  · by_cases h1 : a % b = 0
    all_goals
      go_enter Try.func67, Try.ntmps67
      go_wp2
      all_goals go_ret
      all_goals exact ⟨rfl, rfl⟩

end Go.Proofs.Ytmmdnhfonifhdaa

namespace Go.Proofs.Ytmmdnhfonifhdaa
open Go Go.RowKit

/-- A lane: the slots of the row, of the new element, of the new array, of the longer row; the row, its length, its cells; the element. -/
structure Lane where
  r : Nat
  x : Nat
  s : Nat
  d : Nat
  v : Value
  n : Nat
  xs : List Value
  e : Int
def LaneAt (D : Lane) (base p : Nat) (a : Act) (W : World) (F : List Nat) : Prop :=
  a.tmps[D.r]? = some D.v ∧ a.tmps[D.x]? = some (.int .i64 D.e) ∧
  match p with
  | 0 => W.ownsRow base 3 1 D.v D.n D.xs ∧ F = blk D.v
  | 1 => W.ownsRow base 3 1 D.v D.n D.xs ∧ ∃ q, a.tmps[D.s]? = some (.slice (some ⟨q, 0, none⟩) 1 1) ∧ W.cell? ⟨q, 0, none⟩ = some (.int .i64 D.e) ∧ q < W.heap.size ∧ F = q :: blk D.v
  | _ => ∃ q v', a.tmps[D.s]? = some (.slice (some ⟨q, 0, none⟩) 1 1) ∧ a.tmps[D.d]? = some v' ∧ W.ownsRow base 3 1 v' (D.n + 1) (D.xs ++ [.int .i64 D.e]) ∧ F = blk v'
theorem LaneAt.keep {D : Lane} {base p : Nat} {a a1 : Act} {W W1 : World} {F fp : List Nat} (h : LaneAt D base p a W F) (o : Only W W1 fp) (hf : ∀ b ∈ F, b ∉ fp) (ha : ∀ t, t = D.r ∨ t = D.x ∨ t = D.s ∨ t = D.d → a1.tmps[t]? = a.tmps[t]?) : LaneAt D base p a1 W1 F := by
  obtain ⟨h1, h2, h3⟩ := h
  refine ⟨(ha _ (.inl rfl)).trans h1, (ha _ (.inr (.inl rfl))).trans h2, ?_⟩
  match p, h3 with
  | 0, ⟨h4, h5⟩ => exact ⟨own_only h4 o (fun b hb => hf b (by rw [h5]; exact hb)), h5⟩
  | 1, ⟨h4, q, h5, h6, h7, h8⟩ =>
    refine ⟨own_only h4 o (fun b hb => hf b (by rw [h8]; exact List.mem_cons_of_mem _ hb)), q, (ha _ (.inr (.inr (.inl rfl)))).trans h5, ?_, Nat.lt_of_lt_of_le h7 o.size, h8⟩
    exact (World.cell?_of_block (o.block q h7 (hf q (by rw [h8]; exact List.mem_cons_self)))).trans h6
  | p + 2, ⟨q, v', h4, h5, h6, h7⟩ => exact ⟨q, v', (ha _ (.inr (.inr (.inl rfl)))).trans h4, (ha _ (.inr (.inr (.inr rfl)))).trans h5, own_only h6 o (fun b hb => hf b (by rw [h7]; exact hb)), h7⟩

theorem intInfo1 : (Try.prog.info? 3).map (fun i => (i.zero, i.size, i.bytes)) = some (some (.int .i64 0), 1, 8) := by kernel_rfl
theorem build_int (x : Int) (w : World) : (Instr.buildSlice 54 1 #[(0, .int .i64 x)]).run Try.prog w = .ok (.slice (some ⟨w.heap.size, 0, none⟩) 1 1) (w.alloc (.cells #[.int .i64 x] 3)) := by
  go_simp
theorem eval_at {a : Act} {t : Nat} {v : Value} (h : a.tmps[t]? = some v) : a.eval (.tmp t) = v := by
  show a.tmps.getD t undef = v
  rw [Array.getD_eq_getD_getElem?, h]; rfl
theorem put_at {a : Act} {s : Nat} {v : Value} (h : s < a.tmps.size) : (a.put (some s) v).tmps[s]? = some v := by
  show (a.tmps.setIfInBounds s v)[s]? = _
  rw [Array.getElem?_setIfInBounds]; simp [h]
theorem put_off {a : Act} {s t : Nat} {v : Value} (h : t ≠ s) : (a.put (some s) v).tmps[t]? = a.tmps[t]? := by
  show (a.tmps.setIfInBounds s v)[t]? = _
  rw [Array.getElem?_setIfInBounds, if_neg (Ne.symm h)]
theorem put_size {a : Act} {s : Nat} {v : Value} : (a.put (some s) v).tmps.size = a.tmps.size := by
  show (a.tmps.setIfInBounds s v).size = _
  simp

section
variable {ops : Array Oper}
/-- Both lanes so far. -/
structure Two (D1 D2 : Lane) (base : Nat) (w0 : World) (G : List Nat) (a0 : Act) (p1 p2 : Nat) (a : Act) (W : World) (F1 F2 : List Nat) : Prop where
  l1 : LaneAt D1 base p1 a W F1
  l2 : LaneAt D2 base p2 a W F2
  sep : ∀ b ∈ F1, b ∉ F2
  lt1 : ∀ b ∈ F1, b < W.heap.size
  lt2 : ∀ b ∈ F2, b < W.heap.size
  low1 : ∀ b ∈ F1, base ≤ b
  low2 : ∀ b ∈ F2, base ≤ b
  only : Only w0 W G
  g1 : ∀ b ∈ blk D1.v, b ∈ G
  g2 : ∀ b ∈ blk D2.v, b ∈ G
  base : base ≤ W.heap.size
  size : a.tmps.size = a0.tmps.size
  defers : a.defers = a0.defers
  other : ∀ t, t ≠ D1.s → t ≠ D1.d → t ≠ D2.s → t ≠ D2.d → a.tmps[t]? = a0.tmps[t]?
theorem Two.swap {D1 D2 : Lane} {base : Nat} {w0 : World} {G : List Nat} {a0 a : Act} {p1 p2 : Nat} {W : World} {F1 F2 : List Nat} (h : Two D1 D2 base w0 G a0 p1 p2 a W F1 F2) : Two D2 D1 base w0 G a0 p2 p1 a W F2 F1 :=
  ⟨h.l2, h.l1, fun b h2 h1 => h.sep b h1 h2, h.lt2, h.lt1, h.low2, h.low1, h.only, h.g2, h.g1, h.base, h.size, h.defers, fun t a b c d => h.other t c d a b⟩
/-- The slots of two lanes. -/
structure Apart (D1 D2 : Lane) (m : Nat) : Prop where
  s1 : D1.s < m
  d1 : D1.d < m
  s2 : D2.s < m
  d2 : D2.d < m
  a : D1.s ≠ D1.r ∧ D1.s ≠ D1.x ∧ D1.s ≠ D1.d ∧ D1.d ≠ D1.r ∧ D1.d ≠ D1.x
  b : D2.s ≠ D2.r ∧ D2.s ≠ D2.x ∧ D2.s ≠ D2.d ∧ D2.d ≠ D2.r ∧ D2.d ≠ D2.x
  c : D1.s ≠ D2.r ∧ D1.s ≠ D2.x ∧ D1.s ≠ D2.s ∧ D1.s ≠ D2.d ∧ D1.d ≠ D2.r ∧ D1.d ≠ D2.x ∧ D1.d ≠ D2.s ∧ D1.d ≠ D2.d
  d : D2.s ≠ D1.r ∧ D2.s ≠ D1.x ∧ D2.s ≠ D1.s ∧ D2.s ≠ D1.d ∧ D2.d ≠ D1.r ∧ D2.d ≠ D1.x ∧ D2.d ≠ D1.s ∧ D2.d ≠ D1.d
theorem Apart.swap {D1 D2 : Lane} {m : Nat} (h : Apart D1 D2 m) : Apart D2 D1 m := ⟨h.s2, h.d2, h.s1, h.d1, h.b, h.a, h.d, h.c⟩

theorem Two.build {D1 D2 : Lane} {base : Nat} {w0 : World} {G : List Nat} {a0 a : Act} {p2 : Nat} {W : World} {F1 F2 : List Nat} (h : Two D1 D2 base w0 G a0 0 p2 a W F1 F2) (hs : Apart D1 D2 a0.tmps.size) {o : Oper} (ho : o.op = .buildSlice 54 1 #[(0, .tmp D1.x)]) (hd : o.dst = some D1.s) (hg : o.guard = none) :
    StepO Try.prog ops o a W fun v W1 => ∃ F, Two D1 D2 base w0 G a0 1 p2 (a.put o.dst v) W1 F F2 := by
  obtain ⟨h1, h2, h3, h4⟩ := h.l1
  refine ⟨by unfold Region.wanted; rw [hg], .inl ⟨.slice (some ⟨W.heap.size, 0, none⟩) 1 1, W.alloc (.cells #[.int .i64 D1.e] 3), ?_, ?_⟩⟩
  · unfold execOp
    simp only [ho, List.map_toArray, List.map_cons, List.map_nil, eval_at h2, Sem.run_bind, build_int]
    rfl
  · rw [hd]
    have hb : Only W (W.alloc (.cells #[.int .i64 D1.e] 3)) [] := (Only.refl _ _).alloc _
    have hc := hs.c
    have ha := hs.a
    have hl : D1.s < a.tmps.size := by rw [h.size]; exact hs.s1
    refine ⟨W.heap.size :: F1, ⟨(put_off (Ne.symm ha.1)).trans h1, (put_off (Ne.symm ha.2.1)).trans h2, own_only h3 hb (fun _ _ h => (nomatch h)), W.heap.size, put_at hl, by rw [World.cell?_alloc_new]; rfl, by simp, by rw [h4]⟩,
      h.l2.keep hb (fun _ _ h => (nomatch h)) (fun t ht => put_off (by rcases ht with rfl | rfl | rfl | rfl; exact Ne.symm hc.1; exact Ne.symm hc.2.1; exact Ne.symm hc.2.2.1; exact Ne.symm hc.2.2.2.1)), ?_, ?_, ?_, ?_, h.low2, h.only.alloc _, h.g1, h.g2, by simp; have := h.base; omega, put_size.trans h.size, h.defers, fun t e1 e2 e3 e4 => (put_off e1).trans (h.other t e1 e2 e3 e4)⟩
    · intro b hb hb2
      rcases List.mem_cons.1 hb with rfl | hb
      · exact absurd (h.lt2 _ hb2) (Nat.lt_irrefl _)
      · exact h.sep b hb hb2
    · intro b hb
      rcases List.mem_cons.1 hb with rfl | hb
      · simp
      · have := h.lt1 b hb; simp; omega
    · intro b hb
      have := h.lt2 b hb; simp; omega
    · intro b hb
      rcases List.mem_cons.1 hb with rfl | hb
      · exact h.base
      · exact h.low1 b hb

theorem Two.app {D1 D2 : Lane} {base : Nat} {w0 : World} {G : List Nat} {a0 a : Act} {p2 : Nat} {W : World} {F1 F2 : List Nat} (h : Two D1 D2 base w0 G a0 1 p2 a W F1 F2) (hs : Apart D1 D2 a0.tmps.size) (hn : D1.n ≤ 1000000000) {o : Oper} (ho : o.op = .call { callee := .builtin .append, args := #[.tmp D1.r, .tmp D1.s], argTypes := #[54, 54] }) (hd : o.dst = some D1.d) (hg : o.guard = none) :
    StepO Try.prog ops o a W fun v W1 => ∃ F, Two D1 D2 base w0 G a0 2 p2 (a.put o.dst v) W1 F F2 := by
  obtain ⟨h1, h2, h3, q, h4, h5, h6, h7⟩ := h.l1
  obtain ⟨i0, hi, hz, hsz, hby⟩ : ∃ i, Try.prog.info? 3 = some i ∧ i.zero = some (.int .i64 0) ∧ i.size = 1 ∧ i.bytes = 8 := by
    have h := intInfo1
    cases hh : Try.prog.info? 3 with
    | none => rw [hh] at h; cases h
    | some i => rw [hh] at h; simp at h; exact ⟨i, rfl, h.1, h.2.1, h.2.2⟩
  have hl : Lists W W.heap.size (some ⟨q, 0, none⟩) [.int .i64 D1.e] :=
    ⟨fun ha => (nomatch ha), fun a' ha j u hu => by
      cases ha
      have : j = 0 := by have := (List.getElem?_eq_some_iff.1 hu).1; simp at this; omega
      subst this
      simp at hu; subst hu
      rw [addr_plain]; exact h5, fun a' ha _ => by cases ha; exact h6⟩
  obtain ⟨v', w', hrun, own', hgr, hat⟩ := run_append_src (P := Try.prog) W base 54 o.type 3 i0 (.int .i64 0) 1 8 Try.underlying54 hi hz hsz hby rfl (by decide) D1.v D1.n D1.xs h3 _ (some ⟨q, 0, none⟩) 1 1 [.int .i64 D1.e] hl rfl (fun u hu => by simp at hu; subst hu; rfl) (by simp only [maxLen]; omega) (by omega) h.base
  refine ⟨by unfold Region.wanted; rw [hg], .inl ⟨v', w', ?_, ?_⟩⟩
  · unfold execOp
    simp only [ho, resolve, invoke, builtin, Sem.run_bind, Sem.run_pure, Result.andThen_ok, List.map_toArray, List.map_cons, List.map_nil, eval_at h1, eval_at h4, hrun]
  · rw [hd]
    have hb : Only W w' (blk D1.v) := (Only.refl _ _).grown hgr (fun b hb => .inl (by simp [blk, hb]))
    have hc := hs.c
    have ha := hs.a
    have hl : D1.d < a.tmps.size := by rw [h.size]; exact hs.d1
    have hv : ∀ b ∈ blk v', b ∈ blk D1.v ∨ b = W.heap.size := fun b hb => by
      rcases hat with e | e
      · left; unfold blk at hb ⊢; rw [← e]; exact hb
      · right; unfold blk at hb; rw [e] at hb; simpa using hb
    have hF : ∀ b ∈ blk D1.v, b ∈ F1 := fun b hb => by rw [h7]; exact List.mem_cons_of_mem _ hb
    refine ⟨blk v', ⟨(put_off (Ne.symm ha.2.2.2.1)).trans h1, (put_off (Ne.symm ha.2.2.2.2)).trans h2, q, v', (put_off ha.2.2.1).trans h4, put_at hl, own', rfl⟩,
      h.l2.keep hb (fun b h2 h1 => h.sep b (hF b h1) h2) (fun t ht => put_off (by rcases ht with rfl | rfl | rfl | rfl; exact Ne.symm hc.2.2.2.2.1; exact Ne.symm hc.2.2.2.2.2.1; exact Ne.symm hc.2.2.2.2.2.2.1; exact Ne.symm hc.2.2.2.2.2.2.2)), ?_, blk_lt own', ?_, ?_, h.low2, h.only.trans hb (fun b hb => .inl (h.g1 b hb)), h.g1, h.g2, Nat.le_trans h.base hb.size, put_size.trans h.size, h.defers, fun t e1 e2 e3 e4 => (put_off e2).trans (h.other t e1 e2 e3 e4)⟩
    · intro b hb hb2
      rcases hv b hb with h1 | rfl
      · exact h.sep b (hF b h1) hb2
      · exact absurd (h.lt2 _ hb2) (Nat.lt_irrefl _)
    · intro b h2
      exact Nat.lt_of_lt_of_le (h.lt2 b h2) hb.size
    · intro b hb
      rcases hv b hb with h1 | rfl
      · exact h.low1 b (hF b h1)
      · exact h.base

theorem lanes_two {E : Act → World → Prop} {I : World → Prop} {D1 D2 : Lane} {base i1 j1 i2 j2 : Nat} {w0 : World} {G : List Nat} {a0 a : Act} {W : World} {F1 F2 : List Nat} (h : Two D1 D2 base w0 G a0 0 0 a W F1 F2) (hs : Apart D1 D2 a0.tmps.size) (hn1 : D1.n ≤ 1000000000) (hn2 : D2.n ≤ 1000000000)
    {o1 p1 o2 p2 : Oper} (hi1 : ops[i1]? = some o1) (hj1 : ops[j1]? = some p1) (hi2 : ops[i2]? = some o2) (hj2 : ops[j2]? = some p2)
    (ho1 : o1.op = .buildSlice 54 1 #[(0, .tmp D1.x)]) (hd1 : o1.dst = some D1.s) (hg1 : o1.guard = none)
    (hp1 : p1.op = .call { callee := .builtin .append, args := #[.tmp D1.r, .tmp D1.s], argTypes := #[54, 54] }) (he1 : p1.dst = some D1.d) (hk1 : p1.guard = none)
    (ho2 : o2.op = .buildSlice 54 1 #[(0, .tmp D2.x)]) (hd2 : o2.dst = some D2.s) (hg2 : o2.guard = none)
    (hp2 : p2.op = .call { callee := .builtin .append, args := #[.tmp D2.r, .tmp D2.s], argTypes := #[54, 54] }) (he2 : p2.dst = some D2.d) (hk2 : p2.guard = none)
    (hI : ∀ W, Only w0 W G → I W) (hE : ∀ a' W' F F', Two D1 D2 base w0 G a0 2 2 a' W' F F' → E a' W') : LanesP Try.prog ops E I [i1, j1] [i2, j2] a W := by
  have II : ∀ {p1 p2 a W F1 F2}, Two D1 D2 base w0 G a0 p1 p2 a W F1 F2 → I W := fun h => hI _ h.only
  have L22 : ∀ a W, (∃ F F', Two D1 D2 base w0 G a0 2 2 a W F F') → LanesP Try.prog ops E I [] [] a W := fun a W ⟨F, F', h⟩ => .nil (hE _ _ _ _ h)
  have L12 : ∀ a W, (∃ F F', Two D1 D2 base w0 G a0 1 2 a W F F') → LanesP Try.prog ops E I [j1] [] a W := fun a W ⟨F, F', h⟩ =>
    .left p1 _ hj1 (h.app hs hn1 hp1 he1 hk1) (fun v w' ⟨_, k⟩ => II k) fun v w' ⟨_, k⟩ => L22 _ _ ⟨_, _, k⟩
  have L21 : ∀ a W, (∃ F F', Two D1 D2 base w0 G a0 2 1 a W F F') → LanesP Try.prog ops E I [] [j2] a W := fun a W ⟨F, F', h⟩ =>
    .right p2 _ hj2 (h.swap.app hs.swap hn2 hp2 he2 hk2) (fun v w' ⟨_, k⟩ => II k.swap) fun v w' ⟨_, k⟩ => L22 _ _ ⟨_, _, k.swap⟩
  have L02 : ∀ a W, (∃ F F', Two D1 D2 base w0 G a0 0 2 a W F F') → LanesP Try.prog ops E I [i1, j1] [] a W := fun a W ⟨F, F', h⟩ =>
    .left o1 _ hi1 (h.build hs ho1 hd1 hg1) (fun v w' ⟨_, k⟩ => II k) fun v w' ⟨_, k⟩ => L12 _ _ ⟨_, _, k⟩
  have L20 : ∀ a W, (∃ F F', Two D1 D2 base w0 G a0 2 0 a W F F') → LanesP Try.prog ops E I [] [i2, j2] a W := fun a W ⟨F, F', h⟩ =>
    .right o2 _ hi2 (h.swap.build hs.swap ho2 hd2 hg2) (fun v w' ⟨_, k⟩ => II k.swap) fun v w' ⟨_, k⟩ => L21 _ _ ⟨_, _, k.swap⟩
  have L11 : ∀ a W, (∃ F F', Two D1 D2 base w0 G a0 1 1 a W F F') → LanesP Try.prog ops E I [j1] [j2] a W := fun a W ⟨F, F', h⟩ =>
    .both p1 p2 _ _ hj1 hj2 (h.app hs hn1 hp1 he1 hk1) (h.swap.app hs.swap hn2 hp2 he2 hk2) (fun v w' ⟨_, k⟩ => II k) (fun v w' ⟨_, k⟩ => II k.swap) (fun v w' ⟨_, k⟩ => L21 _ _ ⟨_, _, k⟩) fun v w' ⟨_, k⟩ => L12 _ _ ⟨_, _, k.swap⟩
  have L01 : ∀ a W, (∃ F F', Two D1 D2 base w0 G a0 0 1 a W F F') → LanesP Try.prog ops E I [i1, j1] [j2] a W := fun a W ⟨F, F', h⟩ =>
    .both o1 p2 _ _ hi1 hj2 (h.build hs ho1 hd1 hg1) (h.swap.app hs.swap hn2 hp2 he2 hk2) (fun v w' ⟨_, k⟩ => II k) (fun v w' ⟨_, k⟩ => II k.swap) (fun v w' ⟨_, k⟩ => L11 _ _ ⟨_, _, k⟩) fun v w' ⟨_, k⟩ => L02 _ _ ⟨_, _, k.swap⟩
  have L10 : ∀ a W, (∃ F F', Two D1 D2 base w0 G a0 1 0 a W F F') → LanesP Try.prog ops E I [j1] [i2, j2] a W := fun a W ⟨F, F', h⟩ =>
    .both p1 o2 _ _ hj1 hi2 (h.app hs hn1 hp1 he1 hk1) (h.swap.build hs.swap ho2 hd2 hg2) (fun v w' ⟨_, k⟩ => II k) (fun v w' ⟨_, k⟩ => II k.swap) (fun v w' ⟨_, k⟩ => L20 _ _ ⟨_, _, k⟩) fun v w' ⟨_, k⟩ => L11 _ _ ⟨_, _, k.swap⟩
  exact .both o1 o2 _ _ hi1 hi2 (h.build hs ho1 hd1 hg1) (h.swap.build hs.swap ho2 hd2 hg2) (fun v w' ⟨_, k⟩ => II k) (fun v w' ⟨_, k⟩ => II k.swap) (fun v w' ⟨_, k⟩ => L10 _ _ ⟨_, _, k⟩) fun v w' ⟨_, k⟩ => L01 _ _ ⟨_, _, k.swap⟩

/-- An act is told by its slots. -/
theorem act_is {D1 D2 : Lane} {a a0 : Act} {u1 u2 u3 u4 : Value} (hs : Apart D1 D2 a0.tmps.size) (hz : a.tmps.size = a0.tmps.size) (hd : a.defers = a0.defers) (ho : ∀ t, t ≠ D1.s → t ≠ D1.d → t ≠ D2.s → t ≠ D2.d → a.tmps[t]? = a0.tmps[t]?)
    (h1 : a.tmps[D1.s]? = some u1) (h2 : a.tmps[D1.d]? = some u2) (h3 : a.tmps[D2.s]? = some u3) (h4 : a.tmps[D2.d]? = some u4) : a = (((a0.put (some D1.s) u1).put (some D1.d) u2).put (some D2.s) u3).put (some D2.d) u4 := by
  have key : a.tmps = ((((a0.put (some D1.s) u1).put (some D1.d) u2).put (some D2.s) u3).put (some D2.d) u4).tmps := by
    apply Array.ext_getElem?
    intro t
    have hc := hs.c
    have ha := hs.a
    have hb := hs.b
    by_cases e4 : t = D2.d
    · subst e4
      rw [h4, put_at (by rw [put_size, put_size, put_size]; exact hs.d2)]
    · rw [put_off e4]
      by_cases e3 : t = D2.s
      · subst e3
        rw [h3, put_at (by rw [put_size, put_size]; exact hs.s2)]
      · rw [put_off e3]
        by_cases e2 : t = D1.d
        · subst e2
          rw [h2, put_at (by rw [put_size]; exact hs.d1)]
        · rw [put_off e2]
          by_cases e1 : t = D1.s
          · subst e1
            rw [h1, put_at hs.s1]
          · rw [put_off e1]
            exact ho t e1 e2 e3 e4
  cases a
  cases a0
  simp only at hd key
  subst hd
  rw [key]
  rfl
end

end Go.Proofs.Ytmmdnhfonifhdaa

namespace Go.Proofs.Ytmmdnhfonifhdaa
open Go Go.RowKit

abbrev Pt := Int × Int × Int
def ptV (p : Pt) : Value := .agg #[.int .i64 p.1, .int .i64 p.2.1, .int .i64 p.2.2]
def ptCells : List Pt → List Value
  | [] => []
  | p :: r => .int .i64 p.1 :: .int .i64 p.2.1 :: .int .i64 p.2.2 :: ptCells r
theorem ptCells_len : ∀ L : List Pt, (ptCells L).length = L.length * 3
  | [] => rfl
  | _ :: r => by simp only [ptCells, List.length_cons, ptCells_len r]; omega
theorem ptCells_append : ∀ L M : List Pt, ptCells (L ++ M) = ptCells L ++ ptCells M
  | [], _ => rfl
  | _ :: r, M => by simp only [List.cons_append, ptCells, ptCells_append r M]
theorem ptCells_at : ∀ (L : List Pt) (k : Nat) (p : Pt), L[k]? = some p → (ptCells L)[k * 3]? = some (.int .i64 p.1) ∧ (ptCells L)[k * 3 + 1]? = some (.int .i64 p.2.1) ∧ (ptCells L)[k * 3 + 2]? = some (.int .i64 p.2.2)
  | [], k, p, h => by simp at h
  | q :: r, 0, p, h => by
    simp at h; subst h
    exact ⟨rfl, rfl, rfl⟩
  | q :: r, k + 1, p, h => by
    have := ptCells_at r k p (by simpa using h)
    rw [show (k + 1) * 3 = k * 3 + 3 by omega]
    simpa only [ptCells, List.getElem?_cons_succ] using this
theorem ptCells_one : ∀ L : List Pt, ∀ u ∈ ptCells L, u.oneCell' = true
  | [], u, h => by simp [ptCells] at h
  | q :: r, u, h => by
    simp only [ptCells, List.mem_cons] at h
    rcases h with rfl | rfl | rfl | h
    · rfl
    · rfl
    · rfl
    · exact ptCells_one r u h
theorem lists_pt {w : World} {B : Nat} {A : Option Addr} {L : List Pt} (h : Lists w B A (ptCells L)) {k : Nat} {p : Pt} (hk : L[k]? = some p) :
    ∃ b o, A = some ⟨b, o, none⟩ ∧ b < B ∧ w.cell? ⟨b, o + k * 3, none⟩ = some (.int .i64 p.1) ∧ w.cell? ⟨b, o + k * 3 + 1, none⟩ = some (.int .i64 p.2.1) ∧ w.cell? ⟨b, o + k * 3 + 2, none⟩ = some (.int .i64 p.2.2) := by
  obtain ⟨h1, h2, h3⟩ := ptCells_at L k p hk
  obtain ⟨b, o, rfl, hb, hc⟩ := h.plain (by intro e; rw [e] at h1; simp at h1)
  exact ⟨b, o, rfl, hb, hc _ _ h1, hc _ _ h2, hc _ _ h3⟩
theorem at_some {α : Type} {L : List α} {k : Nat} (h : k < L.length) : ∃ x, L[k]? = some x := ⟨L[k]'h, List.getElem?_eq_getElem _⟩

/-- The point at a place of the ring. -/
def ringP (L : List Pt) (i : Int) : Pt := L.getD (i % L.length).toNat (0, 0, 0)
theorem ringP_at {L : List Pt} {i : Int} {m : Nat} {p : Pt} (h : i % L.length = m) (hp : L[m]? = some p) : ringP L i = p := by
  unfold ringP; rw [h]; simp [List.getD, hp]
theorem ringP_nat {L : List Pt} {k : Nat} {p : Pt} (hp : L[k]? = some p) : ringP L (k : Int) = p := by
  have hk : k < L.length := (List.getElem?_eq_some_iff.1 hp).1
  exact ringP_at (m := k) (by rw [Int.emod_eq_of_lt (by omega) (by omega)]) hp
theorem ringP_add (L : List Pt) (i : Int) : ringP L (i + L.length) = ringP L i := by unfold ringP; rw [Int.add_emod_right]
theorem ringP_sub (L : List Pt) (i : Int) : ringP L (i - L.length) = ringP L i := by unfold ringP; rw [Int.sub_emod_right]
theorem ring_some {L : List Pt} (h : 0 < L.length) (i : Int) : ∃ m : Nat, i % L.length = m ∧ m < L.length ∧ L[m]? = some (ringP L i) := by
  have h1 := Int.emod_nonneg i (show (L.length : Int) ≠ 0 by omega)
  have h2 := Int.emod_lt_of_pos i (show (0 : Int) < L.length by omega)
  refine ⟨(i % L.length).toNat, by omega, by omega, ?_⟩
  obtain ⟨x, hx⟩ := at_some (L := L) (k := (i % L.length).toNat) (by omega)
  rw [hx]; congr 1
  exact (ringP_at (by omega) hx).symm

end Go.Proofs.Ytmmdnhfonifhdaa
