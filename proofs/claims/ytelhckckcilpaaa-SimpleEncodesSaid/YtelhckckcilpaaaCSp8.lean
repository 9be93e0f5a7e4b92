/- Part 9 of the proof: Fork, Lanes, OuJ, OuV, OuZ, OuE, OuX, OuRX, OuD, Eq4, Aff1, Rnd, Aff2, Box1, Box2. -/
import Derived.Shelf.SlicesQ.Reverse
import Derived.Ground.SlgnProg
import Derived.IntWalk
import Derived.Deep.RegionHeld3
import Derived.StillTailTactics
import Derived.Test.YtelhckckcilpaaaCSp7

namespace Go.Proofs.Ytelhckckcilpaaa
open Go Go.RowKit

section
variable {P : Program} {ops : Array Oper} {Q : Exit → Act → World → Prop} {md : Region.Mode} {I : World → Prop}

/-- What only reads may be taken as soon as it is ready; of what changes the world, whatever is ready. -/
inductive PlanF (P : Program) (md : Region.Mode) (ops : Array Oper) (Q : Exit → Act → World → Prop) (I : World → Prop) : Nat → Array Bool → Act → World → Prop
  | done {n : Nat} {listed : Array Bool} {a : Act} {w : World} (hr : Region.ready md ops listed = []) (h : Q .normal a w) : PlanF P md ops Q I n listed a w
  | take {n : Nat} {listed : Array Bool} {a : Act} {w : World} (i : Nat) (o : Oper) (v : Value) (hi : ops[i]? = some o) (hf : Region.free md ops listed i = true) (hr : i ∈ Region.ready md ops listed)
      (hs : StepI P ops I o v a) (h : PlanF P md ops Q I n (listed.setIfInBounds i true) (a.put o.dst v) w) : PlanF P md ops Q I (n + 1) listed a w
  | fork {n : Nat} {listed : Array Bool} {a : Act} {w : World} (o : Nat → Oper) (K : Nat → Value → World → Prop) (hne : Region.ready md ops listed ≠ []) (hi : ∀ i, i ∈ Region.ready md ops listed → ops[i]? = some (o i))
      (hs : ∀ i, i ∈ Region.ready md ops listed → StepO P ops (o i) a w (K i)) (hI : ∀ i, i ∈ Region.ready md ops listed → ∀ v w', K i v w' → I w')
      (h : ∀ i, i ∈ Region.ready md ops listed → ∀ v w', K i v w' → PlanF P md ops Q I n (listed.setIfInBounds i true) (a.put (o i).dst v) w') : PlanF P md ops Q I (n + 1) listed a w

theorem PlanF.first (hns : ∀ (i : Nat) (o : Oper) cs b, ops[i]? = some o → o.op ≠ .select cs b) {n : Nat} {listed : Array Bool} {a : Act} {w : World} (h : PlanF P md ops Q I n listed a w) : ∀ j, j ∈ Region.ready md ops listed →
    ∃ m oj, n = m + 1 ∧ ops[j]? = some oj ∧ ((∃ u, StepI P ops I oj u a ∧ PlanF P md ops Q I m (listed.setIfInBounds j true) (a.put oj.dst u) w) ∨
      (∃ K : Value → World → Prop, StepO P ops oj a w K ∧ (∀ v w', K v w' → I w') ∧ ∀ v w', K v w' → PlanF P md ops Q I m (listed.setIfInBounds j true) (a.put oj.dst v) w')) := by
  induction h with
  | done hr h => intro j hj; rw [hr] at hj; cases hj
  | fork o K hne hi hs hI h =>
    intro j hj
    exact ⟨_, o j, rfl, hi j hj, .inr ⟨K j, hs j hj, hI j hj, h j hj⟩⟩
  | @take n listed a w i o v hi hf hr hs h ih =>
    intro j hj
    by_cases hji : j = i
    · subst hji; exact ⟨_, o, rfl, hi, .inl ⟨v, hs, h⟩⟩
    · obtain ⟨m, oj, rfl, hoj, hh⟩ := ih j (ready_mono hj hji)
      obtain ⟨hjun, oj', hoj', hall⟩ := mem_ready.1 hj
      obtain rfl : oj' = oj := by rw [hoj] at hoj'; exact (Option.some.inj hoj').symm
      have hnot : ∀ e ∈ oj'.after, Region.binds md e = true → e.on ≠ i := fun e he hb heq => by
        have h1 := hall e he hb
        have h0 := (mem_ready.1 hr).1
        rw [heq] at h1
        rcases Nat.lt_or_ge i listed.size with h' | h'
        · simp [h'] at h0 h1; rw [h0] at h1; cases h1
        · simp [Array.getElem?_eq_none h'] at h1
      obtain ⟨h1, h2, h3⟩ := Oper.apart_spec (Region.free_spec hi hf j oj' hoj hji hjun hnot)
      refine ⟨m + 1, oj', rfl, hoj, ?_⟩
      have hst : ∀ u, StepI P ops I o v (a.put oj'.dst u) := fun u => hs.move (put_agree h3 a u)
      rcases hh with ⟨u, hsj, hp⟩ | ⟨K, hsj, hKI, hp⟩
      · refine .inl ⟨u, hsj.move fun t ht => (put_agree h1 a v t ht).symm, ?_⟩
        refine PlanF.take i o v hi (free_set hf) (ready_mono hr (Ne.symm hji)) (hst u) ?_
        rw [Array.setIfInBounds_comm _ _ hji, ← Act.put_comm a v u h2]
        exact hp
      · refine .inr ⟨K, hsj.move (hns j oj' · · hoj) fun t ht => (put_agree h1 a v t ht).symm, hKI, fun u w' hK => ?_⟩
        refine PlanF.take i o v hi (free_set hf) (ready_mono hr (Ne.symm hji)) (hst u) ?_
        rw [Array.setIfInBounds_comm _ _ hji, ← Act.put_comm a v u h2]
        exact hp u w' hK

theorem PlanF.any (hns : ∀ (i : Nat) (o : Oper) cs b, ops[i]? = some o → o.op ≠ .select cs b) : ∀ (fuel n : Nat) (listed : Array Bool) (a : Act) (w : World), DC md ops listed → n ≤ fuel → I w → PlanF P md ops Q I n listed a w → wpAny P md ops Q fuel listed a w
  | 0, n, listed, a, w, _, hn, hI, h => by
    cases h with
    | done hr h => exact ⟨hr, h⟩
    | take => omega
    | fork => omega
  | fuel + 1, n, listed, a, w, hd, hn, hI, h => by
    refine ⟨fun hr => ?_, fun j hj => ?_⟩
    · cases h with
      | done _ h => exact h
      | take i o v hi hf hr' => rw [hr] at hr'; cases hr'
      | fork o K hne => exact absurd hr hne
    · obtain ⟨m, oj, rfl, hoj, hh⟩ := h.first hns j hj
      rcases hh with ⟨u, hsj, hp⟩ | ⟨K, hsj, hKI, hp⟩
      · have hrec := PlanF.any hns fuel m _ _ w (hd.set hj) (by omega) hI hp
        unfold wpOp
        simp only [hoj]
        rcases hsj a w (fun _ _ => rfl) hI with ⟨hw, rfl⟩ | ⟨hw, hrun⟩
        · rw [hw]; exact hrec
        · rw [hw, if_pos rfl]
          refine .inl ?_
          unfold Oper.wp
          rw [hrun]
          exact hrec
      · exact StepO.wpOp hoj (hsj.mono fun v w' hK => PlanF.any hns fuel m _ _ w' (hd.set hj) (by omega) (hKI v w' hK) (hp v w' hK))

/-- Two lanes of operations that change the world. -/
inductive LanesP (P : Program) (ops : Array Oper) (E : Act → World → Prop) (I : World → Prop) : List Nat → List Nat → Act → World → Prop
  | nil {a : Act} {w : World} (h : E a w) : LanesP P ops E I [] [] a w
  | left {i : Nat} {A : List Nat} {a : Act} {w : World} (o : Oper) (K : Value → World → Prop) (hi : ops[i]? = some o) (hs : StepO P ops o a w K) (hI : ∀ v w', K v w' → I w') (h : ∀ v w', K v w' → LanesP P ops E I A [] (a.put o.dst v) w') : LanesP P ops E I (i :: A) [] a w
  | right {j : Nat} {B : List Nat} {a : Act} {w : World} (o : Oper) (K : Value → World → Prop) (hi : ops[j]? = some o) (hs : StepO P ops o a w K) (hI : ∀ v w', K v w' → I w') (h : ∀ v w', K v w' → LanesP P ops E I [] B (a.put o.dst v) w') : LanesP P ops E I [] (j :: B) a w
  | both {i j : Nat} {A B : List Nat} {a : Act} {w : World} (o o' : Oper) (K K' : Value → World → Prop) (hi : ops[i]? = some o) (hj : ops[j]? = some o') (hs : StepO P ops o a w K) (hs' : StepO P ops o' a w K') (hI : ∀ v w', K v w' → I w') (hI' : ∀ v w', K' v w' → I w')
      (h : ∀ v w', K v w' → LanesP P ops E I A (j :: B) (a.put o.dst v) w') (h' : ∀ v w', K' v w' → LanesP P ops E I (i :: A) B (a.put o'.dst v) w') : LanesP P ops E I (i :: A) (j :: B) a w

def quietGo (md : Region.Mode) (ops : Array Oper) : List Nat → Array Bool → Option (Array Bool)
  | [], listed => some listed
  | i :: r, listed => if Region.free md ops listed i && (Region.ready md ops listed).contains i then quietGo md ops r (listed.setIfInBounds i true) else none
def endGo (md : Region.Mode) (ops : Array Oper) (r : List Nat) (listed : Array Bool) : Bool := match quietGo md ops r listed with
  | some l => (Region.ready md ops l).isEmpty
  | none => false
def lanesGo (md : Region.Mode) (ops : Array Oper) (r : List Nat) : Nat → List Nat → List Nat → Array Bool → Bool
  | _, [], [], listed => endGo md ops r listed
  | f + 1, i :: A, [], listed => (Region.ready md ops listed == [i]) && lanesGo md ops r f A [] (listed.setIfInBounds i true)
  | f + 1, [], j :: B, listed => (Region.ready md ops listed == [j]) && lanesGo md ops r f [] B (listed.setIfInBounds j true)
  | f + 1, i :: A, j :: B, listed => ((Region.ready md ops listed == [i, j]) && (i != j) && lanesGo md ops r f A (j :: B) (listed.setIfInBounds i true) && lanesGo md ops r f (i :: A) B (listed.setIfInBounds j true)) || ((Region.ready md ops listed == [i]) && lanesGo md ops r f A (j :: B) (listed.setIfInBounds i true))
  | 0, _ :: _, _, _ => false
  | 0, [], _ :: _, _ => false
/-- What only reads, in one order. -/
def QuietL (P : Program) (ops : Array Oper) (E : Act → World → Prop) (I : World → Prop) : List Nat → Act → World → Prop
  | [], a, w => E a w
  | i :: r, a, w => ∃ o v, ops[i]? = some o ∧ StepI P ops I o v a ∧ QuietL P ops E I r (a.put o.dst v) w

theorem QuietL.plan {E : Act → World → Prop} {n : Nat} : ∀ (r : List Nat) (listed l : Array Bool) (a : Act) (w : World), quietGo md ops r listed = some l → (∀ a w, E a w → PlanF P md ops Q I n l a w) → QuietL P ops E I r a w → PlanF P md ops Q I (n + r.length) listed a w
  | [], listed, l, a, w, hg, hE, h => by
    simp only [quietGo, Option.some.injEq] at hg
    subst hg
    exact hE _ _ h
  | i :: r, listed, l, a, w, hg, hE, h => by
    obtain ⟨o, v, hi, hs, hr⟩ := h
    simp only [quietGo] at hg
    split at hg
    · rename_i hc
      rw [Bool.and_eq_true] at hc
      exact .take i o v hi hc.1 (by simpa using hc.2) hs (QuietL.plan r _ l _ w hg hE hr)
    · cases hg

theorem PlanF.more {n m : Nat} {listed : Array Bool} {a : Act} {w : World} (h : PlanF P md ops Q I n listed a w) : n ≤ m → PlanF P md ops Q I m listed a w := by
  induction h generalizing m with
  | done hr h => exact fun _ => .done hr h
  | take i o v hi hf hr hs h ih =>
    intro hm
    obtain ⟨k, rfl⟩ : ∃ k, m = k + 1 := ⟨m - 1, by omega⟩
    exact .take i o v hi hf hr hs (ih (by omega))
  | fork o K hne hi hs hI h ih =>
    intro hm
    obtain ⟨k, rfl⟩ : ∃ k, m = k + 1 := ⟨m - 1, by omega⟩
    exact .fork o K hne hi hs hI fun i hr v w' hK => ih i hr v w' hK (by omega)

theorem LanesP.plan {E : Act → World → Prop} {r : List Nat} (hE : ∀ (listed : Array Bool) a w, endGo md ops r listed = true → E a w → PlanF P md ops Q I r.length listed a w) : ∀ (f : Nat) (A B : List Nat) (listed : Array Bool) (a : Act) (w : World), lanesGo md ops r f A B listed = true → LanesP P ops E I A B a w → PlanF P md ops Q I (f + r.length) listed a w := by
  intro f
  induction f with
  | zero =>
    intro A B listed a w hg h
    cases h with
    | nil h => rw [Nat.zero_add]; exact hE _ _ _ (by simpa [lanesGo] using hg) h
    | left => simp [lanesGo] at hg
    | right => simp [lanesGo] at hg
    | both => simp [lanesGo] at hg
  | succ f ih =>
    intro A B listed a w hg h
    rw [Nat.add_right_comm]
    cases h with
    | nil h => exact (hE _ _ _ (by simpa [lanesGo] using hg) h).more (by omega)
    | @left i A _ _ o K hi hs hI h =>
      simp only [lanesGo, Bool.and_eq_true, beq_iff_eq] at hg
      refine .fork (fun _ => o) (fun _ => K) (by rw [hg.1]; simp) ?_ ?_ ?_ ?_
      all_goals
        intro k hk
        rw [hg.1] at hk
        obtain rfl : k = i := by simpa using hk
      · exact hi
      · exact hs
      · exact hI
      · exact fun v w' hK => ih _ _ _ _ _ hg.2 (h v w' hK)
    | @right i B _ _ o K hi hs hI h =>
      simp only [lanesGo, Bool.and_eq_true, beq_iff_eq] at hg
      refine .fork (fun _ => o) (fun _ => K) (by rw [hg.1]; simp) ?_ ?_ ?_ ?_
      all_goals
        intro k hk
        rw [hg.1] at hk
        obtain rfl : k = i := by simpa using hk
      · exact hi
      · exact hs
      · exact hI
      · exact fun v w' hK => ih _ _ _ _ _ hg.2 (h v w' hK)
    | @both i j A B _ _ o o' K K' hi hj hs hs' hI hI' h h' =>
      simp only [lanesGo, Bool.or_eq_true, Bool.and_eq_true, beq_iff_eq, bne_iff_ne, ne_eq] at hg
      rcases hg with ⟨⟨⟨hr, hne⟩, h1⟩, h2⟩ | ⟨hr, h1⟩
      · refine .fork (fun k => if k = i then o else o') (fun k => if k = i then K else K') (by rw [hr]; simp) ?_ ?_ ?_ ?_
        all_goals
          intro k hk
          rw [hr] at hk
          have hk2 : k = i ∨ k = j := by simpa using hk
          rcases hk2 with rfl | rfl
        · simpa using hi
        · rw [if_neg (Ne.symm hne)]; exact hj
        · simpa using hs
        · simp only [if_neg (Ne.symm hne)]; exact hs'
        · simpa using hI
        · simp only [if_neg (Ne.symm hne)]; exact hI'
        · simp only [if_true]; exact fun v w' hK => ih _ _ _ _ _ h1 (h v w' hK)
        · simp only [if_neg (Ne.symm hne)]; exact fun v w' hK => ih _ _ _ _ _ h2 (h' v w' hK)
      · refine .fork (fun _ => o) (fun _ => K) (by rw [hr]; simp) ?_ ?_ ?_ ?_
        all_goals
          intro k hk
          rw [hr] at hk
          obtain rfl : k = i := by simpa using hk
        · exact hi
        · exact hs
        · exact hI
        · exact fun v w' hK => ih _ _ _ _ _ h1 (h v w' hK)

def lanesOk (md : Region.Mode) (ops : Array Oper) (q A B r : List Nat) : Bool := Region.noSelect ops && decide (A.length + B.length + r.length + q.length ≤ ops.size) && match quietGo md ops q (Array.replicate ops.size false) with
  | some l => lanesGo md ops r (A.length + B.length) A B l
  | none => false

/-- THE LAW: first what only reads (q), then the two lanes, then what only reads (r). -/
theorem wp_region_lanes {id : Nat} {a : Act} {w : World} (I : World → Prop) (q A B r : List Nat) (hm : P.follows .mixedOrders = true) (hok : lanesOk .any ops q A B r = true) (hI : I w.drew)
    (h : QuietL P ops (fun a w => LanesP P ops (fun a w => QuietL P ops (Q .normal) I r a w) I A B a w) I q a w.drew) : (Code.region id ops true).wp P Q a w := by
  refine wp_region_any hm ?_
  unfold lanesOk at hok
  simp only [Bool.and_eq_true, decide_eq_true_eq] at hok
  obtain ⟨⟨h1, h2⟩, h3⟩ := hok
  split at h3
  · rename_i l hl
    refine PlanF.any (fun i o cs b hi => Region.noSelect_spec h1 i o cs b hi) ops.size (A.length + B.length + r.length + q.length) _ a w.drew (DC.none _) h2 hI ?_
    refine QuietL.plan q _ l a w.drew hl (fun a w hL => ?_) h
    refine LanesP.plan (fun listed a w hg hE => ?_) _ A B l a w h3 hL
    unfold endGo at hg
    split at hg
    · rename_i l' hl'
      have := QuietL.plan (n := 0) (Q := Q) r listed l' a w hl' (fun a w hq => .done (by simpa using hg) hq) hE
      rwa [Nat.zero_add] at this
    · cases hg
  · cases h3

variable {E : Act → World → Prop} {i : Nat} {r : List Nat} {o : Oper} {a : Act} {w : World}
theorem QuietL.val {v : Value} (hi : ops[i]? = some o) (hns : ∀ cs b, o.op ≠ .select cs b) (hw : Region.wanted o (yielded ops a.tmps) = true) (h : ∀ w, I w → (execOp a.eval o).run P w = .ok (.value v) w)
    (hr : QuietL P ops E I r (a.put o.dst v) w) : QuietL P ops E I (i :: r) a w :=
  ⟨o, v, hi, fun a' w' hag hI => .inr ⟨by rw [wanted_agree o hag]; exact hw, by rw [exec_agree o hns hag]; exact h w' hI⟩, hr⟩
theorem QuietL.nil (h : E a w) : QuietL P ops E I [] a w := h
end

end Go.Proofs.Ytelhckckcilpaaa

namespace Go.Proofs.Ytelhckckcilpaaa
open Go Go.RowKit

/-- A lane: the slots of the row, of the new element, of the new array, of the longer row; the row, its length, its cells; the element. -/
structure Lane where
  r : Nat
  x : Nat
  s : Nat
  d : Nat
  v : Value
  n : Nat
  xs : List Value
  e : Int
def LaneAt (D : Lane) (base p : Nat) (a : Act) (W : World) (F : List Nat) : Prop :=
  a.tmps[D.r]? = some D.v ∧ a.tmps[D.x]? = some (.int .i64 D.e) ∧
  match p with
  | 0 => W.ownsRow base 3 1 D.v D.n D.xs ∧ F = blk D.v
  | 1 => W.ownsRow base 3 1 D.v D.n D.xs ∧ ∃ q, a.tmps[D.s]? = some (.slice (some ⟨q, 0, none⟩) 1 1) ∧ W.cell? ⟨q, 0, none⟩ = some (.int .i64 D.e) ∧ q < W.heap.size ∧ F = q :: blk D.v
  | _ => ∃ q v', a.tmps[D.s]? = some (.slice (some ⟨q, 0, none⟩) 1 1) ∧ a.tmps[D.d]? = some v' ∧ W.ownsRow base 3 1 v' (D.n + 1) (D.xs ++ [.int .i64 D.e]) ∧ F = blk v'
theorem LaneAt.keep {D : Lane} {base p : Nat} {a a1 : Act} {W W1 : World} {F fp : List Nat} (h : LaneAt D base p a W F) (o : Only W W1 fp) (hf : ∀ b ∈ F, b ∉ fp) (ha : ∀ t, t = D.r ∨ t = D.x ∨ t = D.s ∨ t = D.d → a1.tmps[t]? = a.tmps[t]?) : LaneAt D base p a1 W1 F := by
  obtain ⟨h1, h2, h3⟩ := h
  refine ⟨(ha _ (.inl rfl)).trans h1, (ha _ (.inr (.inl rfl))).trans h2, ?_⟩
  match p, h3 with
  | 0, ⟨h4, h5⟩ => exact ⟨own_only h4 o (fun b hb => hf b (by rw [h5]; exact hb)), h5⟩
  | 1, ⟨h4, q, h5, h6, h7, h8⟩ =>
    refine ⟨own_only h4 o (fun b hb => hf b (by rw [h8]; exact List.mem_cons_of_mem _ hb)), q, (ha _ (.inr (.inr (.inl rfl)))).trans h5, ?_, Nat.lt_of_lt_of_le h7 o.size, h8⟩
    exact (World.cell?_of_block (o.block q h7 (hf q (by rw [h8]; exact List.mem_cons_self)))).trans h6
  | p + 2, ⟨q, v', h4, h5, h6, h7⟩ => exact ⟨q, v', (ha _ (.inr (.inr (.inl rfl)))).trans h4, (ha _ (.inr (.inr (.inr rfl)))).trans h5, own_only h6 o (fun b hb => hf b (by rw [h7]; exact hb)), h7⟩

theorem intInfo1 : (Try.prog.info? 3).map (fun i => (i.zero, i.size, i.bytes)) = some (some (.int .i64 0), 1, 8) := by kernel_rfl
theorem build_int (x : Int) (w : World) : (Instr.buildSlice 38 1 #[(0, .int .i64 x)]).run Try.prog w = .ok (.slice (some ⟨w.heap.size, 0, none⟩) 1 1) (w.alloc (.cells #[.int .i64 x] 3)) := by
  go_simp
theorem eval_at {a : Act} {t : Nat} {v : Value} (h : a.tmps[t]? = some v) : a.eval (.tmp t) = v := by
  show a.tmps.getD t undef = v
  rw [Array.getD_eq_getD_getElem?, h]; rfl
theorem put_at {a : Act} {s : Nat} {v : Value} (h : s < a.tmps.size) : (a.put (some s) v).tmps[s]? = some v := by
  show (a.tmps.setIfInBounds s v)[s]? = _
  rw [Array.getElem?_setIfInBounds]; simp [h]
theorem put_off {a : Act} {s t : Nat} {v : Value} (h : t ≠ s) : (a.put (some s) v).tmps[t]? = a.tmps[t]? := by
  show (a.tmps.setIfInBounds s v)[t]? = _
  rw [Array.getElem?_setIfInBounds, if_neg (Ne.symm h)]
theorem put_size {a : Act} {s : Nat} {v : Value} : (a.put (some s) v).tmps.size = a.tmps.size := by
  show (a.tmps.setIfInBounds s v).size = _
  simp

section
variable {ops : Array Oper}
/-- Both lanes so far. -/
structure Two (D1 D2 : Lane) (base : Nat) (w0 : World) (G : List Nat) (a0 : Act) (p1 p2 : Nat) (a : Act) (W : World) (F1 F2 : List Nat) : Prop where
  l1 : LaneAt D1 base p1 a W F1
  l2 : LaneAt D2 base p2 a W F2
  sep : ∀ b ∈ F1, b ∉ F2
  lt1 : ∀ b ∈ F1, b < W.heap.size
  lt2 : ∀ b ∈ F2, b < W.heap.size
  low1 : ∀ b ∈ F1, base ≤ b
  low2 : ∀ b ∈ F2, base ≤ b
  only : Only w0 W G
  g1 : ∀ b ∈ blk D1.v, b ∈ G
  g2 : ∀ b ∈ blk D2.v, b ∈ G
  base : base ≤ W.heap.size
  size : a.tmps.size = a0.tmps.size
  defers : a.defers = a0.defers
  other : ∀ t, t ≠ D1.s → t ≠ D1.d → t ≠ D2.s → t ≠ D2.d → a.tmps[t]? = a0.tmps[t]?
theorem Two.swap {D1 D2 : Lane} {base : Nat} {w0 : World} {G : List Nat} {a0 a : Act} {p1 p2 : Nat} {W : World} {F1 F2 : List Nat} (h : Two D1 D2 base w0 G a0 p1 p2 a W F1 F2) : Two D2 D1 base w0 G a0 p2 p1 a W F2 F1 :=
  ⟨h.l2, h.l1, fun b h2 h1 => h.sep b h1 h2, h.lt2, h.lt1, h.low2, h.low1, h.only, h.g2, h.g1, h.base, h.size, h.defers, fun t a b c d => h.other t c d a b⟩
/-- The slots of two lanes. -/
structure Apart (D1 D2 : Lane) (m : Nat) : Prop where
  s1 : D1.s < m
  d1 : D1.d < m
  s2 : D2.s < m
  d2 : D2.d < m
  a : D1.s ≠ D1.r ∧ D1.s ≠ D1.x ∧ D1.s ≠ D1.d ∧ D1.d ≠ D1.r ∧ D1.d ≠ D1.x
  b : D2.s ≠ D2.r ∧ D2.s ≠ D2.x ∧ D2.s ≠ D2.d ∧ D2.d ≠ D2.r ∧ D2.d ≠ D2.x
  c : D1.s ≠ D2.r ∧ D1.s ≠ D2.x ∧ D1.s ≠ D2.s ∧ D1.s ≠ D2.d ∧ D1.d ≠ D2.r ∧ D1.d ≠ D2.x ∧ D1.d ≠ D2.s ∧ D1.d ≠ D2.d
  d : D2.s ≠ D1.r ∧ D2.s ≠ D1.x ∧ D2.s ≠ D1.s ∧ D2.s ≠ D1.d ∧ D2.d ≠ D1.r ∧ D2.d ≠ D1.x ∧ D2.d ≠ D1.s ∧ D2.d ≠ D1.d
theorem Apart.swap {D1 D2 : Lane} {m : Nat} (h : Apart D1 D2 m) : Apart D2 D1 m := ⟨h.s2, h.d2, h.s1, h.d1, h.b, h.a, h.d, h.c⟩

theorem Two.build {D1 D2 : Lane} {base : Nat} {w0 : World} {G : List Nat} {a0 a : Act} {p2 : Nat} {W : World} {F1 F2 : List Nat} (h : Two D1 D2 base w0 G a0 0 p2 a W F1 F2) (hs : Apart D1 D2 a0.tmps.size) {o : Oper} (ho : o.op = .buildSlice 38 1 #[(0, .tmp D1.x)]) (hd : o.dst = some D1.s) (hg : o.guard = none) :
    StepO Try.prog ops o a W fun v W1 => ∃ F, Two D1 D2 base w0 G a0 1 p2 (a.put o.dst v) W1 F F2 := by
  obtain ⟨h1, h2, h3, h4⟩ := h.l1
  refine ⟨by unfold Region.wanted; rw [hg], .inl ⟨.slice (some ⟨W.heap.size, 0, none⟩) 1 1, W.alloc (.cells #[.int .i64 D1.e] 3), ?_, ?_⟩⟩
  · unfold execOp
    simp only [ho, List.map_toArray, List.map_cons, List.map_nil, eval_at h2, Sem.run_bind, build_int]
    rfl
  · rw [hd]
    have hb : Only W (W.alloc (.cells #[.int .i64 D1.e] 3)) [] := (Only.refl _ _).alloc _
    have hc := hs.c
    have ha := hs.a
    have hl : D1.s < a.tmps.size := by rw [h.size]; exact hs.s1
    refine ⟨W.heap.size :: F1, ⟨(put_off (Ne.symm ha.1)).trans h1, (put_off (Ne.symm ha.2.1)).trans h2, own_only h3 hb (fun _ _ h => (nomatch h)), W.heap.size, put_at hl, by rw [World.cell?_alloc_new]; rfl, by simp, by rw [h4]⟩,
      h.l2.keep hb (fun _ _ h => (nomatch h)) (fun t ht => put_off (by rcases ht with rfl | rfl | rfl | rfl; exact Ne.symm hc.1; exact Ne.symm hc.2.1; exact Ne.symm hc.2.2.1; exact Ne.symm hc.2.2.2.1)), ?_, ?_, ?_, ?_, h.low2, h.only.alloc _, h.g1, h.g2, by simp; have := h.base; omega, put_size.trans h.size, h.defers, fun t e1 e2 e3 e4 => (put_off e1).trans (h.other t e1 e2 e3 e4)⟩
    · intro b hb hb2
      rcases List.mem_cons.1 hb with rfl | hb
      · exact absurd (h.lt2 _ hb2) (Nat.lt_irrefl _)
      · exact h.sep b hb hb2
    · intro b hb
      rcases List.mem_cons.1 hb with rfl | hb
      · simp
      · have := h.lt1 b hb; simp; omega
    · intro b hb
      have := h.lt2 b hb; simp; omega
    · intro b hb
      rcases List.mem_cons.1 hb with rfl | hb
      · exact h.base
      · exact h.low1 b hb

theorem Two.app {D1 D2 : Lane} {base : Nat} {w0 : World} {G : List Nat} {a0 a : Act} {p2 : Nat} {W : World} {F1 F2 : List Nat} (h : Two D1 D2 base w0 G a0 1 p2 a W F1 F2) (hs : Apart D1 D2 a0.tmps.size) (hn : D1.n ≤ 1000000000) {o : Oper} (ho : o.op = .call { callee := .builtin .append, args := #[.tmp D1.r, .tmp D1.s], argTypes := #[38, 38] }) (hd : o.dst = some D1.d) (hg : o.guard = none) :
    StepO Try.prog ops o a W fun v W1 => ∃ F, Two D1 D2 base w0 G a0 2 p2 (a.put o.dst v) W1 F F2 := by
  obtain ⟨h1, h2, h3, q, h4, h5, h6, h7⟩ := h.l1
  obtain ⟨i0, hi, hz, hsz, hby⟩ : ∃ i, Try.prog.info? 3 = some i ∧ i.zero = some (.int .i64 0) ∧ i.size = 1 ∧ i.bytes = 8 := by
    have h := intInfo1
    cases hh : Try.prog.info? 3 with
    | none => rw [hh] at h; cases h
    | some i => rw [hh] at h; simp at h; exact ⟨i, rfl, h.1, h.2.1, h.2.2⟩
  have hl : Lists W W.heap.size (some ⟨q, 0, none⟩) [.int .i64 D1.e] :=
    ⟨fun ha => (nomatch ha), fun a' ha j u hu => by
      cases ha
      have : j = 0 := by have := (List.getElem?_eq_some_iff.1 hu).1; simp at this; omega
      subst this
      simp at hu; subst hu
      rw [addr_plain]; exact h5, fun a' ha _ => by cases ha; exact h6⟩
  obtain ⟨v', w', hrun, own', hgr, hat⟩ := run_append_src (P := Try.prog) W base 38 o.type 3 i0 (.int .i64 0) 1 8 Try.underlying38 hi hz hsz hby rfl (by decide) D1.v D1.n D1.xs h3 _ (some ⟨q, 0, none⟩) 1 1 [.int .i64 D1.e] hl rfl (fun u hu => by simp at hu; subst hu; rfl) (by simp only [maxLen]; omega) (by omega) h.base
  refine ⟨by unfold Region.wanted; rw [hg], .inl ⟨v', w', ?_, ?_⟩⟩
  · unfold execOp
    simp only [ho, resolve, invoke, builtin, Sem.run_bind, Sem.run_pure, Result.andThen_ok, List.map_toArray, List.map_cons, List.map_nil, eval_at h1, eval_at h4, hrun]
  · rw [hd]
    have hb : Only W w' (blk D1.v) := (Only.refl _ _).grown hgr (fun b hb => .inl (by simp [blk, hb]))
    have hc := hs.c
    have ha := hs.a
    have hl : D1.d < a.tmps.size := by rw [h.size]; exact hs.d1
    have hv : ∀ b ∈ blk v', b ∈ blk D1.v ∨ b = W.heap.size := fun b hb => by
      rcases hat with e | e
      · left; unfold blk at hb ⊢; rw [← e]; exact hb
      · right; unfold blk at hb; rw [e] at hb; simpa using hb
    have hF : ∀ b ∈ blk D1.v, b ∈ F1 := fun b hb => by rw [h7]; exact List.mem_cons_of_mem _ hb
    refine ⟨blk v', ⟨(put_off (Ne.symm ha.2.2.2.1)).trans h1, (put_off (Ne.symm ha.2.2.2.2)).trans h2, q, v', (put_off ha.2.2.1).trans h4, put_at hl, own', rfl⟩,
      h.l2.keep hb (fun b h2 h1 => h.sep b (hF b h1) h2) (fun t ht => put_off (by rcases ht with rfl | rfl | rfl | rfl; exact Ne.symm hc.2.2.2.2.1; exact Ne.symm hc.2.2.2.2.2.1; exact Ne.symm hc.2.2.2.2.2.2.1; exact Ne.symm hc.2.2.2.2.2.2.2)), ?_, blk_lt own', ?_, ?_, h.low2, h.only.trans hb (fun b hb => .inl (h.g1 b hb)), h.g1, h.g2, Nat.le_trans h.base hb.size, put_size.trans h.size, h.defers, fun t e1 e2 e3 e4 => (put_off e2).trans (h.other t e1 e2 e3 e4)⟩
    · intro b hb hb2
      rcases hv b hb with h1 | rfl
      · exact h.sep b (hF b h1) hb2
      · exact absurd (h.lt2 _ hb2) (Nat.lt_irrefl _)
    · intro b h2
      exact Nat.lt_of_lt_of_le (h.lt2 b h2) hb.size
    · intro b hb
      rcases hv b hb with h1 | rfl
      · exact h.low1 b (hF b h1)
      · exact h.base

theorem lanes_two {E : Act → World → Prop} {I : World → Prop} {D1 D2 : Lane} {base i1 j1 i2 j2 : Nat} {w0 : World} {G : List Nat} {a0 a : Act} {W : World} {F1 F2 : List Nat} (h : Two D1 D2 base w0 G a0 0 0 a W F1 F2) (hs : Apart D1 D2 a0.tmps.size) (hn1 : D1.n ≤ 1000000000) (hn2 : D2.n ≤ 1000000000)
    {o1 p1 o2 p2 : Oper} (hi1 : ops[i1]? = some o1) (hj1 : ops[j1]? = some p1) (hi2 : ops[i2]? = some o2) (hj2 : ops[j2]? = some p2)
    (ho1 : o1.op = .buildSlice 38 1 #[(0, .tmp D1.x)]) (hd1 : o1.dst = some D1.s) (hg1 : o1.guard = none)
    (hp1 : p1.op = .call { callee := .builtin .append, args := #[.tmp D1.r, .tmp D1.s], argTypes := #[38, 38] }) (he1 : p1.dst = some D1.d) (hk1 : p1.guard = none)
    (ho2 : o2.op = .buildSlice 38 1 #[(0, .tmp D2.x)]) (hd2 : o2.dst = some D2.s) (hg2 : o2.guard = none)
    (hp2 : p2.op = .call { callee := .builtin .append, args := #[.tmp D2.r, .tmp D2.s], argTypes := #[38, 38] }) (he2 : p2.dst = some D2.d) (hk2 : p2.guard = none)
    (hI : ∀ W, Only w0 W G → I W) (hE : ∀ a' W' F F', Two D1 D2 base w0 G a0 2 2 a' W' F F' → E a' W') : LanesP Try.prog ops E I [i1, j1] [i2, j2] a W := by
  have II : ∀ {p1 p2 a W F1 F2}, Two D1 D2 base w0 G a0 p1 p2 a W F1 F2 → I W := fun h => hI _ h.only
  have L22 : ∀ a W, (∃ F F', Two D1 D2 base w0 G a0 2 2 a W F F') → LanesP Try.prog ops E I [] [] a W := fun a W ⟨F, F', h⟩ => .nil (hE _ _ _ _ h)
  have L12 : ∀ a W, (∃ F F', Two D1 D2 base w0 G a0 1 2 a W F F') → LanesP Try.prog ops E I [j1] [] a W := fun a W ⟨F, F', h⟩ =>
    .left p1 _ hj1 (h.app hs hn1 hp1 he1 hk1) (fun v w' ⟨_, k⟩ => II k) fun v w' ⟨_, k⟩ => L22 _ _ ⟨_, _, k⟩
  have L21 : ∀ a W, (∃ F F', Two D1 D2 base w0 G a0 2 1 a W F F') → LanesP Try.prog ops E I [] [j2] a W := fun a W ⟨F, F', h⟩ =>
    .right p2 _ hj2 (h.swap.app hs.swap hn2 hp2 he2 hk2) (fun v w' ⟨_, k⟩ => II k.swap) fun v w' ⟨_, k⟩ => L22 _ _ ⟨_, _, k.swap⟩
  have L02 : ∀ a W, (∃ F F', Two D1 D2 base w0 G a0 0 2 a W F F') → LanesP Try.prog ops E I [i1, j1] [] a W := fun a W ⟨F, F', h⟩ =>
    .left o1 _ hi1 (h.build hs ho1 hd1 hg1) (fun v w' ⟨_, k⟩ => II k) fun v w' ⟨_, k⟩ => L12 _ _ ⟨_, _, k⟩
  have L20 : ∀ a W, (∃ F F', Two D1 D2 base w0 G a0 2 0 a W F F') → LanesP Try.prog ops E I [] [i2, j2] a W := fun a W ⟨F, F', h⟩ =>
    .right o2 _ hi2 (h.swap.build hs.swap ho2 hd2 hg2) (fun v w' ⟨_, k⟩ => II k.swap) fun v w' ⟨_, k⟩ => L21 _ _ ⟨_, _, k.swap⟩
  have L11 : ∀ a W, (∃ F F', Two D1 D2 base w0 G a0 1 1 a W F F') → LanesP Try.prog ops E I [j1] [j2] a W := fun a W ⟨F, F', h⟩ =>
    .both p1 p2 _ _ hj1 hj2 (h.app hs hn1 hp1 he1 hk1) (h.swap.app hs.swap hn2 hp2 he2 hk2) (fun v w' ⟨_, k⟩ => II k) (fun v w' ⟨_, k⟩ => II k.swap) (fun v w' ⟨_, k⟩ => L21 _ _ ⟨_, _, k⟩) fun v w' ⟨_, k⟩ => L12 _ _ ⟨_, _, k.swap⟩
  have L01 : ∀ a W, (∃ F F', Two D1 D2 base w0 G a0 0 1 a W F F') → LanesP Try.prog ops E I [i1, j1] [j2] a W := fun a W ⟨F, F', h⟩ =>
    .both o1 p2 _ _ hi1 hj2 (h.build hs ho1 hd1 hg1) (h.swap.app hs.swap hn2 hp2 he2 hk2) (fun v w' ⟨_, k⟩ => II k) (fun v w' ⟨_, k⟩ => II k.swap) (fun v w' ⟨_, k⟩ => L11 _ _ ⟨_, _, k⟩) fun v w' ⟨_, k⟩ => L02 _ _ ⟨_, _, k.swap⟩
  have L10 : ∀ a W, (∃ F F', Two D1 D2 base w0 G a0 1 0 a W F F') → LanesP Try.prog ops E I [j1] [i2, j2] a W := fun a W ⟨F, F', h⟩ =>
    .both p1 o2 _ _ hj1 hi2 (h.app hs hn1 hp1 he1 hk1) (h.swap.build hs.swap ho2 hd2 hg2) (fun v w' ⟨_, k⟩ => II k) (fun v w' ⟨_, k⟩ => II k.swap) (fun v w' ⟨_, k⟩ => L20 _ _ ⟨_, _, k⟩) fun v w' ⟨_, k⟩ => L11 _ _ ⟨_, _, k.swap⟩
  exact .both o1 o2 _ _ hi1 hi2 (h.build hs ho1 hd1 hg1) (h.swap.build hs.swap ho2 hd2 hg2) (fun v w' ⟨_, k⟩ => II k) (fun v w' ⟨_, k⟩ => II k.swap) (fun v w' ⟨_, k⟩ => L10 _ _ ⟨_, _, k⟩) fun v w' ⟨_, k⟩ => L01 _ _ ⟨_, _, k.swap⟩

/-- An act is told by its slots. -/
theorem act_is {D1 D2 : Lane} {a a0 : Act} {u1 u2 u3 u4 : Value} (hs : Apart D1 D2 a0.tmps.size) (hz : a.tmps.size = a0.tmps.size) (hd : a.defers = a0.defers) (ho : ∀ t, t ≠ D1.s → t ≠ D1.d → t ≠ D2.s → t ≠ D2.d → a.tmps[t]? = a0.tmps[t]?)
    (h1 : a.tmps[D1.s]? = some u1) (h2 : a.tmps[D1.d]? = some u2) (h3 : a.tmps[D2.s]? = some u3) (h4 : a.tmps[D2.d]? = some u4) : a = (((a0.put (some D1.s) u1).put (some D1.d) u2).put (some D2.s) u3).put (some D2.d) u4 := by
  have key : a.tmps = ((((a0.put (some D1.s) u1).put (some D1.d) u2).put (some D2.s) u3).put (some D2.d) u4).tmps := by
    apply Array.ext_getElem?
    intro t
    have hc := hs.c
    have ha := hs.a
    have hb := hs.b
    by_cases e4 : t = D2.d
    · subst e4
      rw [h4, put_at (by rw [put_size, put_size, put_size]; exact hs.d2)]
    · rw [put_off e4]
      by_cases e3 : t = D2.s
      · subst e3
        rw [h3, put_at (by rw [put_size, put_size]; exact hs.s2)]
      · rw [put_off e3]
        by_cases e2 : t = D1.d
        · subst e2
          rw [h2, put_at (by rw [put_size]; exact hs.d1)]
        · rw [put_off e2]
          by_cases e1 : t = D1.s
          · subst e1
            rw [h1, put_at hs.s1]
          · rw [put_off e1]
            exact ho t e1 e2 e3 e4
  cases a
  cases a0
  simp only at hd key
  subst hd
  rw [key]
  rfl
end

end Go.Proofs.Ytelhckckcilpaaa

namespace Go.Proofs.Ytelhckckcilpaaa
open Go Go.RowKit

def joinE (a b : List (List Pt)) : Int := if chkE a = 0 then (if chkE b = 0 then chkE (a ++ b) else chkE b) else chkE a
def JoinPost (w : World) (a b : List (List Pt)) (e : Ending) (w' : World) : Prop :=
  (joinE a b ≠ 0 → e = .returned (.tuple #[.slice none 0 0, .int .i64 (joinE a b)]) ∧ Below w.heap.size w w') ∧
  (joinE a b = 0 → ∃ v, e = .returned (.tuple #[v, .int .i64 0]) ∧ Own2 w' w.heap.size v (a ++ b) ∧ Below w.heap.size w w')
theorem outs_two {w : World} {A A2 : Option Addr} {c c2 : Nat} {a b : List (List Pt)} (ha : OutAt w w.heap.size A a) (hb : OutAt w w.heap.size A2 b) (T : TypeId) :
    OutsAt (w.alloc (.cells #[.slice A a.length c, .slice A2 b.length c2] T)) (w.alloc (.cells #[.slice A a.length c, .slice A2 b.length c2] T)).heap.size w.heap.size [a, b] := by
  have k := (Below.refl w.heap.size w).alloc (Nat.le_refl _) (.cells #[.slice A a.length c, .slice A2 b.length c2] T)
  refine ⟨fun i Ls h => ?_⟩
  match i, h with
  | 0, h =>
    simp at h; subst h
    exact ⟨A, c, lists_new2 w _ _ T 0 _ rfl, (ha.below k).more k.size⟩
  | 1, h =>
    simp at h; subst h
    exact ⟨A2, c2, lists_new2 w _ _ T 1 _ rfl, (hb.below k).more k.size⟩
  | k + 2, h => simp at h
theorem outs_one {w : World} {A : Option Addr} {c : Nat} {a : List (List Pt)} (ha : OutAt w w.heap.size A a) (T : TypeId) :
    OutsAt (w.alloc (.cells #[.slice A a.length c] T)) (w.alloc (.cells #[.slice A a.length c] T)).heap.size w.heap.size [a] := by
  have k := (Below.refl w.heap.size w).alloc (Nat.le_refl _) (.cells #[.slice A a.length c] T)
  refine ⟨fun i Ls h => ?_⟩
  match i, h with
  | 0, h =>
    simp at h; subst h
    exact ⟨A, c, by rw [World.cell?_alloc_new]; rfl, (ha.below k).more k.size⟩
  | k + 1, h => simp at h

def Sm2 (Ls : List (List Pt)) : Prop := Ls.length ≤ 50000 ∧ ∀ L ∈ Ls, L.length ≤ 100000
theorem Sm2.sm {Ls : List (List Pt)} (h : Sm2 Ls) : Sm Ls := ⟨by have := h.1; omega, h.2⟩
theorem Sm2.app {a b : List (List Pt)} (h : Sm2 a) (k : Sm2 b) : Sm (a ++ b) :=
  ⟨by rw [List.length_append]; have := h.1; have := k.1; omega, fun L hL => by
    rcases List.mem_append.1 hL with h1 | h1
    · exact h.2 L h1
    · exact k.2 L h1⟩

end Go.Proofs.Ytelhckckcilpaaa

namespace Go.Proofs.Ytelhckckcilpaaa
open Go Go.RowKit

def encP (p : Pt) : List Value := [.int .i64 p.1, .int .i64 p.2.1, .int .i64 p.2.2]
theorem encP_one : ∀ x : Pt, ∀ v ∈ encP x, v.oneCell' = true := fun x v hv => by simp [encP] at hv; rcases hv with rfl | rfl | rfl <;> rfl
theorem ptCells_get (L : List Pt) (t : Nat) (ht : t < L.length * 3) : (ptCells L)[t]? = some ((encP (L.toArray)[t / 3]!)[t % 3]!) := by
  obtain ⟨p, hp⟩ := at_some (L := L) (k := t / 3) (by omega)
  obtain ⟨h1, h2, h3⟩ := ptCells_at L (t / 3) p hp
  have he : (L.toArray)[t / 3]! = p := by simp [hp]
  rw [he]
  rcases (show t % 3 = 0 ∨ t % 3 = 1 ∨ t % 3 = 2 by omega) with h | h | h
  · rw [show t = t / 3 * 3 by omega, h1, show t / 3 * 3 % 3 = 0 by omega]; rfl
  · rw [show t = t / 3 * 3 + 1 by omega, h2, show (t / 3 * 3 + 1) % 3 = 1 by omega]; rfl
  · rw [show t = t / 3 * 3 + 2 by omega, h3, show (t / 3 * 3 + 2) % 3 = 2 by omega]; rfl
theorem flat_pt (L : List Pt) : Sort.flatK encP 3 L.toArray = (ptCells L).toArray := by
  refine Sort.ext_get! (by simp [ptCells_len]) fun t ht => ?_
  rw [Sort.size_flatK] at ht
  rw [Sort.get_flatK _ _ _ _ ht]
  have := ptCells_get L t (by simpa using ht)
  have hlt : t < (ptCells L).toArray.size := by simp [ptCells_len]; simpa using ht
  rw [getElem!_pos (ptCells L).toArray t hlt, List.getElem_toArray]
  exact (List.getElem?_eq_some_iff.1 this).2.symm
theorem own_block {w : World} {base g n cap : Nat} {e : TypeId} {size : Nat} {xs : List Value} (h : w.ownsRow base e size (.slice (some ⟨g, 0, none⟩) n cap) n xs) :
    ∃ cur, base ≤ g ∧ w.heap[g]? = some (.cells cur e (0, 0)) ∧ n ≤ cap ∧ cap ≤ maxLen ∧ cur.size = cap * size ∧ cur.toList.take (n * size) = xs := by
  rcases h.2 with ⟨h', _⟩ | ⟨g', cap', cur, h', h2⟩
  · simp at h'
  · simp only [Value.slice.injEq, Option.some.injEq, Addr.mk.injEq, and_true, true_and] at h'
    obtain ⟨rfl, rfl⟩ := h'
    exact ⟨cur, h2⟩
theorem own2_set {w w1 : World} {base i : Nat} {v r : Value} {Ls : List (List Pt)} {L' : List Pt} {rows : List Value} (ho : w.ownsRow base 43 1 v Ls.length rows) (hi : Inner w base Ls rows)
    (hr : rows[i]? = some r) {L : List Pt} (hL : Ls[i]? = some L) (o : Only w w1 (blk r)) (hr1 : w1.ownsRow base 57 3 r L'.length (ptCells L')) : Own2 w1 base v (Ls.set i L') := by
  obtain ⟨q, hq, hqo⟩ := hi.1 i L hL
  rw [hr] at hq; cases hq
  refine ⟨rows, by rw [List.length_set]; exact own_only ho o (fun b h1 h2 => own_own ho hqo (by decide) b h1 h2), fun j M hM => ?_, hi.2⟩
  by_cases hij : j = i
  · subst hij
    have hlt : j < Ls.length := (List.getElem?_eq_some_iff.1 hL).1
    rw [List.getElem?_set_self hlt] at hM
    cases hM
    exact ⟨r, hr, hr1⟩
  · rw [List.getElem?_set_ne (Ne.symm hij)] at hM
    obtain ⟨s, h1, h2⟩ := hi.1 j M hM
    exact ⟨s, h1, own_only h2 o (hi.2 j i s r hij h1 hr)⟩
def revL : List Pt → List Pt
  | [] => []
  | p :: r => p :: r.reverse

end Go.Proofs.Ytelhckckcilpaaa

namespace Go.Proofs.Ytelhckckcilpaaa
open Go Go.RowKit

theorem lists_pt1 (w : World) (p : Pt) (T : TypeId) : Lists (w.alloc (.cells #[.int .i64 p.1, .int .i64 p.2.1, .int .i64 p.2.2] T)) (w.heap.size + 1) (some ⟨w.heap.size, 0, none⟩) (ptCells [p]) :=
  ⟨fun ha => (nomatch ha), fun a ha j u hu => by
    cases ha
    rw [addr_plain, World.cell?_alloc_new, Nat.zero_add, ← hu]
    rw [List.getElem?_toArray]; rfl, fun a ha _ => by cases ha; simp⟩
theorem lists_ptk (w : World) (p : Pt) (T : TypeId) (k : Nat) (hk : k = w.heap.size) : Lists (w.alloc (.cells #[.int .i64 p.1, .int .i64 p.2.1, .int .i64 p.2.2] T)) (w.heap.size + 1) (some ⟨k, 0, none⟩) (ptCells [p]) := by
  subst hk; exact lists_pt1 w p T
theorem revL_at {L : List Pt} {k x : Nat} {p : Pt} (hk : k < L.length) (hx : x = if k = 0 then 0 else L.length - k) (hp : L[x]? = some p) : (revL L)[k]? = some p := by
  cases L with
  | nil => simp at hk
  | cons q R =>
    cases k with
    | zero => rw [if_pos rfl] at hx; subst hx; exact hp
    | succ k =>
      rw [if_neg (by omega)] at hx
      simp only [List.length_cons] at hk hx
      unfold revL
      rw [List.getElem?_cons_succ, List.getElem?_reverse (by omega)]
      obtain ⟨y, rfl⟩ : ∃ y, x = y + 1 := ⟨R.length - 1 - k, by omega⟩
      rw [List.getElem?_cons_succ] at hp
      rw [show R.length - 1 - k = y by omega]
      exact hp
theorem revL_len (L : List Pt) : (revL L).length = L.length := by cases L <;> simp [revL]

end Go.Proofs.Ytelhckckcilpaaa

namespace Go.Proofs.Ytelhckckcilpaaa
open Go Go.RowKit

def midP (p q : Pt) : Pt := ((p.1 + q.1) / 2, (p.2.1 + q.2.1) / 2, 1)
theorem shr1 (a : Int) (w : World) (_ : -9223372036854775808 ≤ a) (_ : a ≤ 9223372036854775807) : (binOp .shr 3 (.int .i64 a) (.int .u64 1)).run Try.prog w = .ok (.int .i64 (a / 2)) w := by
  go_simp
def isOn (p : Pt) : Bool := p.2.2 == 1
def hasOn (L : List Pt) : Bool := L.any isOn
def onI (L : List Pt) : Int := if hasOn L then (L.findIdx isOn : Nat) else -1
/-- Where a contour begins. -/
def st (L : List Pt) : Nat := if hasOn L then L.findIdx isOn else 0
theorem on_at {L : List Pt} {k : Nat} {p : Pt} (hp : L[k]? = some p) (h1 : isOn p = true) (h : ∀ (j : Nat) (q : Pt), j < k → L[j]? = some q → isOn q = false) : hasOn L = true ∧ L.findIdx isOn = k := by
  obtain ⟨hk, he⟩ := List.getElem?_eq_some_iff.1 hp
  refine ⟨List.any_eq_true.2 ⟨p, List.mem_of_getElem? hp, h1⟩, (List.findIdx_eq hk).2 ⟨by rw [he]; exact h1, fun j hj => ?_⟩⟩
  exact h j _ hj (List.getElem?_eq_getElem _)
theorem onI_at {L : List Pt} {k : Nat} {p : Pt} (hp : L[k]? = some p) (h1 : isOn p = true) (h : ∀ (j : Nat) (q : Pt), j < k → L[j]? = some q → isOn q = false) : onI L = k := by
  obtain ⟨a, b⟩ := on_at hp h1 h
  unfold onI; rw [if_pos a, b]
theorem on_none {L : List Pt} (h : ∀ (j : Nat) (q : Pt), L[j]? = some q → isOn q = false) : hasOn L = false := by
  cases h2 : hasOn L
  · rfl
  · obtain ⟨p, hp, h3⟩ := List.any_eq_true.1 h2
    obtain ⟨j, hj⟩ := List.mem_iff_getElem?.1 hp
    rw [h j p hj] at h3; cases h3
theorem onI_none {L : List Pt} (h : ∀ (j : Nat) (q : Pt), L[j]? = some q → isOn q = false) : onI L = -1 := by
  unfold onI; rw [on_none h]; rfl
theorem st_lt {L : List Pt} (h : 0 < L.length) : st L < L.length := by
  unfold st
  cases h2 : hasOn L
  · exact h
  · rw [if_pos rfl]; exact List.findIdx_lt_length.2 (by simpa [hasOn] using h2)
theorem st_max (L : List Pt) : max (onI L) 0 = (st L : Int) := by
  unfold onI st
  cases hasOn L
  · rfl
  · simp only [if_true]; omega

end Go.Proofs.Ytelhckckcilpaaa

namespace Go.Proofs.Ytelhckckcilpaaa
open Go Go.RowKit

def stepX (L : List Pt) (a : Int) : List Pt := (if kd L (a - 1) == 2 && kd L a == 2 then [midP (ringP L (a - 1)) (ringP L a)] else []) ++ [ringP L a]
def exK (L : List Pt) (k : Nat) : List Pt := (List.range k).flatMap fun (i : Nat) => stepX L ((st L : Int) + i)
def exE (L : List Pt) : List Pt := exK L L.length
theorem exK_succ (L : List Pt) (k : Nat) : exK L (k + 1) = exK L k ++ stepX L ((st L : Int) + k) := by simp [exK, List.range_succ]
/-- All coordinates may be. -/
def Fair (L : List Pt) : Prop := ∀ p ∈ L, mayB p.1 = true ∧ mayB p.2.1 = true
theorem Fair.ring {L : List Pt} (h : Fair L) (h0 : 0 < L.length) (a : Int) : mayB (ringP L a).1 = true ∧ mayB (ringP L a).2.1 = true := by
  obtain ⟨m, _, _, hp⟩ := ring_some h0 a
  exact h _ (List.mem_of_getElem? hp)
theorem fair_of {L : List Pt} (h : mayC L = true) : Fair L := by
  intro p hp
  unfold mayC at h
  rw [Bool.and_eq_true, allI_true] at h
  obtain ⟨j, hj⟩ := List.mem_iff_getElem?.1 hp
  have := h.2 j p hj
  unfold okA okP at this
  simp only [Bool.and_eq_true] at this
  exact ⟨this.1.1.1.1, this.1.1.1.2⟩
theorem may_pos {L : List Pt} (h : mayC L = true) : 0 < L.length := by
  unfold mayC at h
  rw [Bool.and_eq_true, decide_eq_true_eq] at h
  exact h.1

theorem stepX_len (L : List Pt) (a : Int) : (stepX L a).length ≤ 2 := by
  unfold stepX
  split <;> simp
theorem exK_len (L : List Pt) : ∀ k, (exK L k).length ≤ 2 * k
  | 0 => by simp [exK]
  | k + 1 => by
    have h1 := exK_len L k
    have h2 := stepX_len L ((st L : Int) + k)
    rw [exK_succ, List.length_append]
    omega

end Go.Proofs.Ytelhckckcilpaaa

namespace Go.Proofs.Ytelhckckcilpaaa
open Go Go.RowKit

def rm (L : List Pt) (n k : Nat) : List Pt := if kd L ((st L : Int) + k) == 2 && kd L ((st L : Int) + k + 1) == 2 && !(decide (k + 1 = n) && kd L (st L : Int) == 2) then [midP (ringP L ((st L : Int) + k)) (ringP L ((st L : Int) + k + 1))] else []
def rexK (L : List Pt) (k : Nat) : List Pt := (List.range k).flatMap fun (i : Nat) => [ringP L ((st L : Int) + i)] ++ rm L L.length i
def preR (L : List Pt) : List Pt := if hasOn L then [] else [midP (ringP L ((L.length : Int) - 1)) (ringP L 0)]
def rexE (L : List Pt) : List Pt := preR L ++ rexK L L.length
theorem rexK_succ (L : List Pt) (k : Nat) : rexK L (k + 1) = rexK L k ++ ([ringP L ((st L : Int) + k)] ++ rm L L.length k) := by simp [rexK, List.range_succ]
theorem rm_len (L : List Pt) (n k : Nat) : (rm L n k).length ≤ 1 := by unfold rm; split <;> simp
theorem rexK_len (L : List Pt) : ∀ k, (rexK L k).length ≤ 2 * k
  | 0 => by simp [rexK]
  | k + 1 => by
    have h1 := rexK_len L k
    have h2 := rm_len L L.length k
    rw [rexK_succ, List.length_append, List.length_append, List.length_singleton]
    omega
def FirstFrom (L : List Pt) (k : Nat) (r : Int) : Prop :=
  (r = -1 ∧ ∀ (j : Nat) (p : Pt), k ≤ j → L[j]? = some p → isOn p = false) ∨
  (∃ (m : Nat) (p : Pt), r = (m : Int) ∧ k ≤ m ∧ L[m]? = some p ∧ isOn p = true ∧ ∀ (j : Nat) (q : Pt), k ≤ j → j < m → L[j]? = some q → isOn q = false)
theorem FirstFrom.zero {L : List Pt} {r : Int} (h : FirstFrom L 0 r) : r = onI L := by
  rcases h with ⟨rfl, h⟩ | ⟨m, p, rfl, _, h1, h2, h3⟩
  · exact (onI_none (fun j q hq => h j q (Nat.zero_le _) hq)).symm
  · exact (onI_at h1 h2 (fun j q hj hq => h3 j q (Nat.zero_le _) hj hq)).symm
theorem FirstFrom.on {L : List Pt} {k : Nat} {p : Pt} (hp : L[k]? = some p) (h : isOn p = true) : FirstFrom L k (k : Int) :=
  .inr ⟨k, p, rfl, Nat.le_refl _, hp, h, fun j q h1 h2 _ => by omega⟩
theorem FirstFrom.off {L : List Pt} {k : Nat} {p : Pt} {r : Int} (h : FirstFrom L (k + 1) r) (hp : L[k]? = some p) (ho : isOn p = false) : FirstFrom L k r := by
  have here : ∀ (j : Nat) (q : Pt), k ≤ j → L[j]? = some q → j = k → isOn q = false := fun j q _ hq e => by subst e; rw [hp] at hq; cases hq; exact ho
  rcases h with ⟨rfl, h⟩ | ⟨m, p', rfl, h0, h1, h2, h3⟩
  · refine .inl ⟨rfl, fun j q hj hq => ?_⟩
    by_cases e : j = k
    · exact here j q hj hq e
    · exact h j q (by omega) hq
  · refine .inr ⟨m, p', rfl, by omega, h1, h2, fun j q hj hjm hq => ?_⟩
    by_cases e : j = k
    · exact here j q hj hq e
    · exact h3 j q (by omega) hjm hq
def predI (k : Nat) : Int := (k : Int) - 1
theorem predI_succ (k : Nat) : predI (k + 1) = (k : Int) := by unfold predI; omega

end Go.Proofs.Ytelhckckcilpaaa

namespace Go.Proofs.Ytelhckckcilpaaa
open Go Go.RowKit

def ExPost (w : World) (Ls : List (List Pt)) (e : Ending) (w' : World) : Prop :=
  (chkE Ls ≠ 0 → e = .returned (.tuple #[.slice none 0 0, .int .i64 (chkE Ls)]) ∧ Below w.heap.size w w') ∧
  (chkE Ls = 0 → ∃ v, e = .returned (.tuple #[v, .int .i64 0]) ∧ Own2 w' w.heap.size v (Ls.map exE) ∧ Below w.heap.size w w')
theorem chk_zero {Ls : List (List Pt)} (h : chkE Ls = 0) : Ls.length ≤ 256 ∧ cntO Ls ≤ 4096 ∧ ∀ L ∈ Ls, mayC L = true := by
  unfold chkE at h
  by_cases h1 : 256 < Ls.length ∨ 4096 < cntO Ls
  · rw [if_pos h1] at h; cases h
  · rw [if_neg h1] at h
    by_cases h2 : Ls.all mayC = true
    · exact ⟨by omega, by omega, fun L hL => List.all_eq_true.1 h2 L hL⟩
    · rw [if_neg h2] at h; cases h

theorem outAt_nil (w : World) (B : Nat) : OutAt w B none [] := ⟨fun i L h => by simp at h⟩

end Go.Proofs.Ytelhckckcilpaaa

namespace Go.Proofs.Ytelhckckcilpaaa
open Go.RowKit

/-- are two quadruples the same? -/
def eq4 (a b c d a' b' c' d' : Int) : Bool := a == a' && b == b' && c == c' && d == d'

theorem eqB_run (a b c d a' b' c' d' : Int) (w : World) :
    (binOp .eql 68 (.agg #[.int .i64 a, .int .i64 b, .int .i64 c, .int .i64 d]) (.agg #[.int .i64 a', .int .i64 b', .int .i64 c', .int .i64 d'])).run Try.prog w = .ok (.bool (eq4 a b c d a' b' c' d')) w := by
  have hS : Try.prog.underlying 68 = some (.struct (Try.prog.fieldsOf 68)) := by kernel_rfl
  have hp : Try.prog.stoodInHeld 68 = false := by kernel_rfl
  have u3 := Try.underlying3
  have a3 := Try.isAgg3
  have z3 := Try.sizeOf3
  rw [run_eql_struct, show (10000 : Nat) = 9999 + 1 from rfl, run_equalIn_agg w 9999 68 _ _ hS hp]
  simp only [Program.fieldsOf, Try.underlying68]
  unfold eq4
  go_simp
  by_cases h1 : a = a' <;> by_cases h2 : b = b' <;> by_cases h3 : c = c' <;> by_cases h4 : d = d' <;> simp [h1, h2, h3, h4]

theorem eqB_guard (a b c d a' b' c' d' : Int) (x y : Operand) (w : World) :
    (eqGuard .eql 68 x y (.agg #[.int .i64 a, .int .i64 b, .int .i64 c, .int .i64 d]) (.agg #[.int .i64 a', .int .i64 b', .int .i64 c', .int .i64 d'])).run Try.prog w = .ok () w :=
  run_eqGuard_agg w .eql 68 x y _ _ (by kernel_rfl)

end Go.Proofs.Ytelhckckcilpaaa

namespace Go.Proofs.Ytelhckckcilpaaa
open Go.RowKit

/-- a number of a matrix, cut off -/
def clampP (x : Int) : Int := min (max x (-32768)) 32767
def fitB (x : Int) : Bool := decide (-32768 ≤ x) && decide (x < 32768)

theorem bcell {W w1 : World} (hb : Below W.heap.size W w1) : (∀ b o, b < W.heap.size → w1.cell? ⟨b, o, none⟩ = W.cell? ⟨b, o, none⟩) ∧ (∀ b o, b < W.heap.size → w1.frozen? ⟨b, o, none⟩ = W.frozen? ⟨b, o, none⟩) :=
  ⟨fun _ _ h => hb.cell h, fun _ _ h => hb.frozen h⟩

/-- may a matrix be? -/
def fitM (a b c d : Int) : Bool := fitB a && fitB b && fitB c && fitB d

theorem clamp_fit (a : Int) : (a == clampP a) = fitB a := by
  unfold fitB clampP
  rw [Bool.eq_iff_iff]; simp; omega

theorem eq4_clamp (a b c d : Int) : eq4 a b c d (clampP a) (clampP b) (clampP c) (clampP d) = fitM a b c d := by
  unfold eq4 fitM; rw [clamp_fit, clamp_fit, clamp_fit, clamp_fit]

end Go.Proofs.Ytelhckckcilpaaa

namespace Go.Proofs.Ytelhckckcilpaaa
open Go.RowKit

theorem i64_mask (n : Int) (k : Nat) (hk : k ≤ 62) : bits .and .i64 n ((2 ^ k - 1 : Nat) : Int) = n % ((2 ^ k : Nat) : Int) := by
  have hlt : 2 ^ k ≤ 2 ^ 62 := Nat.pow_le_pow_right (by omega) hk
  have hpos : 0 < 2 ^ k := Nat.two_pow_pos k
  have h1 : (BitVec.ofInt 64 ((2 ^ k - 1 : Nat) : Int)).toNat = 2 ^ k - 1 := by
    rw [BitVec.ofInt_natCast, BitVec.toNat_ofNat]; exact Nat.mod_eq_of_lt (by omega)
  have key : (BitVec.ofInt 64 n &&& BitVec.ofInt 64 ((2 ^ k - 1 : Nat) : Int)).toNat = (n % ((2 ^ 64 : Nat) : Int)).toNat % 2 ^ k := by
    rw [BitVec.toNat_and, BitVec.toNat_ofInt, h1, Nat.and_two_pow_sub_one_eq_mod]
  show IntKind.i64.wrap ((BitVec.ofInt 64 n &&& BitVec.ofInt 64 ((2 ^ k - 1 : Nat) : Int)).toNat : Nat) = _
  have hd : ((2 ^ k : Nat) : Int) ∣ ((2 ^ 64 : Nat) : Int) := Int.natCast_dvd_natCast.mpr (Nat.pow_dvd_pow 2 (by omega))
  have hm : n % ((2 ^ 64 : Nat) : Int) % ((2 ^ k : Nat) : Int) = n % ((2 ^ k : Nat) : Int) := Int.emod_emod_of_dvd n hd
  have h0 : 0 ≤ n % ((2 ^ 64 : Nat) : Int) := Int.emod_nonneg n (by omega)
  have hb := Int.emod_lt_of_pos n (show (0 : Int) < ((2 ^ k : Nat) : Int) by omega)
  have hb0 := Int.emod_nonneg n (show ((2 ^ k : Nat) : Int) ≠ 0 by omega)
  rw [key, Int.natCast_emod, Int.toNat_of_nonneg h0, hm]
  exact IntWalk.i64_in _ (by omega)

theorem i64_and63 (n : Int) : bits .and .i64 n 63 = n % 64 := i64_mask n 6 (by decide)
theorem i64_and1 (n : Int) : bits .and .i64 n 1 = n % 2 := i64_mask n 1 (by decide)

end Go.Proofs.Ytelhckckcilpaaa

namespace Go.Proofs.Ytelhckckcilpaaa
open Go.RowKit

theorem fitB_lo {x : Int} (h : fitB x = true) : -32768 ≤ x := by unfold fitB at h; simp at h; exact h.1
theorem fitB_hi {x : Int} (h : fitB x = true) : x < 32768 := by unfold fitB at h; simp at h; exact h.2
theorem prod_lim {x a : Int} (hx : mayB x = true) (ha : fitB a = true) : -70368744177664 ≤ x * a ∧ x * a ≤ 70368744177664 :=
  mul_bound 2147483648 32768 (mayB_lo hx) (mayB_hi hx) (fitB_lo ha) (by have := fitB_hi ha; omega)

/-- what Apply answers: the error, and the two numbers behind the matrix -/
def apX (a c x y : Int) : Int := near (x * a + y * c) 16384
def apE (a b c d x y : Int) : Int := if fitM a b c d then (if mayB x && mayB y then (if mayB (apX a c x y) && mayB (apX b d x y) then 0 else 10) else 10) else 1
def apR (e v : Int) : Int := if e = 0 then v else 0

theorem ret_iii {a b c a' b' c' : Int} (h : a = a') (g : b = b') (k : c = c') : Ending.returned (.tuple #[.int .i64 a, .int .i64 b, .int .i64 c]) = .returned (.tuple #[.int .i64 a', .int .i64 b', .int .i64 c']) := by rw [h, g, k]

end Go.Proofs.Ytelhckckcilpaaa

namespace Go.Proofs.Ytelhckckcilpaaa
open Go.RowKit

/-- a box's four numbers -/
structure Q where
  x0 : Int
  y0 : Int
  x1 : Int
  y1 : Int
deriving DecidableEq

def mayQ (A : Q) : Bool := mayB A.x0 && mayB A.y0 && mayB A.x1 && mayB A.y1
def emptyQ (A : Q) : Bool := decide (A.x1 ≤ A.x0) || decide (A.y1 ≤ A.y0)
def zeroQ : Q := ⟨0, 0, 0, 0⟩
def plainQ (A : Q) : Q := if emptyQ A then zeroQ else A
def dropV (x : Int) : Int := if mayB x then x else 0

theorem drop_eq (x : Int) : (x == dropV x) = mayB x := by
  unfold dropV
  by_cases h : mayB x = true
  · simp [h]
  · have h' : mayB x = false := by simpa using h
    rw [h']
    have : x ≠ 0 := by rintro rfl; exact h (by decide)
    simp [this]

theorem eq4_drop (A : Q) : eq4 A.x0 A.y0 A.x1 A.y1 (dropV A.x0) (dropV A.y0) (dropV A.x1) (dropV A.y1) = mayQ A := by
  unfold eq4 mayQ; rw [drop_eq, drop_eq, drop_eq, drop_eq]

theorem least_any (x y : Int) (w : World) : Calls Try.prog 94 #[.int .i64 x, .int .i64 y] w fun e w' => e = .returned (.int .i64 (min x y)) ∧ w = w' := by
  by_cases h : x < y
  all_goals
    go_enter Try.func94, Try.ntmps94
    go_wp2
    all_goals go_ret
    all_goals exact ⟨ret_int (by omega), rfl⟩

theorem most_any (x y : Int) (w : World) : Calls Try.prog 95 #[.int .i64 x, .int .i64 y] w fun e w' => e = .returned (.int .i64 (max x y)) ∧ w = w' := by
  by_cases h : x < y
  all_goals
    go_enter Try.func95, Try.ntmps95
    go_wp2
    all_goals go_ret
    all_goals exact ⟨ret_int (by omega), rfl⟩

theorem rleast_any (x y : Int) (w : World) : Calls Try.prog 98 #[.int .i64 x, .int .i64 y] w fun e w' => e = .returned (.int .i64 (min x y)) ∧ w = w' := by
  by_cases h : x < y
  all_goals
    go_enter Try.func98, Try.ntmps98
    go_wp2
    all_goals go_ret
    all_goals exact ⟨ret_int (by omega), rfl⟩

theorem rmost_any (x y : Int) (w : World) : Calls Try.prog 99 #[.int .i64 x, .int .i64 y] w fun e w' => e = .returned (.int .i64 (max x y)) ∧ w = w' := by
  by_cases h : x < y
  all_goals
    go_enter Try.func99, Try.ntmps99
    go_wp2
    all_goals go_ret
    all_goals exact ⟨ret_int (by omega), rfl⟩

end Go.Proofs.Ytelhckckcilpaaa

namespace Go.Proofs.Ytelhckckcilpaaa
open Go.RowKit

theorem below_set4 {B b : Nat} {a w : World} (h : Below B a w) (hb : B ≤ b) (v0 v1 v2 v3 : Value) :
    Below B a ((((w.setCell ⟨b, 0, none⟩ v0).setCell ⟨b, 1, none⟩ v1).setCell ⟨b, 2, none⟩ v2).setCell ⟨b, 3, none⟩ v3) :=
  (((h.setCell hb _).setCell hb _).setCell hb _).setCell hb _

end Go.Proofs.Ytelhckckcilpaaa
