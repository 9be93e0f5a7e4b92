/- A region whose order is open, in which some operations change the world one behind the other (a call, a new array, an append, a store), and all others only read what these leave alone: it may be walked in one order. -/
import Derived.Test.YtdbhfigdojkceaaPlan
import Derived.Test.YtdbhfigdojkceaaMem
namespace Go.Proofs.Ytdbhfigdojkceaa
open Go Go.RowKit

section
variable {P : Program} {ops : Array Oper} {Q : Exit → Act → World → Prop} {md : Region.Mode} {I : World → Prop}

/-- Operation o, in every act that agrees on what it looks at, in every world that meets I: it yields v, and the world stays. -/
def StepI (P : Program) (ops : Array Oper) (I : World → Prop) (o : Oper) (v : Value) (a : Act) : Prop :=
  ∀ (a' : Act) (w : World), (∀ t ∈ o.looksAt ops, a'.tmps[t]? = a.tmps[t]?) → I w →
    (Region.wanted o (yielded ops a'.tmps) = false ∧ v = undef) ∨ (Region.wanted o (yielded ops a'.tmps) = true ∧ (execOp a'.eval o).run P w = .ok (.value v) w)

/-- Operation o at this act and world: it is wanted, and yields a value, by itself or by a call; K holds of it and of the world behind it. -/
def StepO (P : Program) (ops : Array Oper) (o : Oper) (a : Act) (w : World) (K : Value → World → Prop) : Prop :=
  Region.wanted o (yielded ops a.tmps) = true ∧ ((∃ v w', (execOp a.eval o).run P w = .ok (.value v) w' ∧ K v w') ∨ (∃ f args w1, (execOp a.eval o).run P w = .ok (.enter f args) w1 ∧ Calls P f args w1 fun e w' => ∃ v, e = .returned v ∧ K v w') ∨ (∃ w', (execOp a.eval o).run P w = .ok .skip w' ∧ K undef w'))

theorem StepO.mono {o : Oper} {a : Act} {w : World} {K K' : Value → World → Prop} (h : StepO P ops o a w K) (hK : ∀ v w', K v w' → K' v w') : StepO P ops o a w K' := by
  obtain ⟨hw, h | h | h⟩ := h
  · obtain ⟨v, w', h1, h2⟩ := h
    exact ⟨hw, .inl ⟨v, w', h1, hK _ _ h2⟩⟩
  · obtain ⟨f, args, w1, h1, h2⟩ := h
    exact ⟨hw, .inr (.inl ⟨f, args, w1, h1, h2.mono fun e w' ⟨v, h3, h4⟩ => ⟨v, h3, hK _ _ h4⟩⟩)⟩
  · obtain ⟨w', h1, h2⟩ := h
    exact ⟨hw, .inr (.inr ⟨w', h1, hK _ _ h2⟩)⟩
theorem StepO.move {o : Oper} (hns : ∀ cs b, o.op ≠ .select cs b) {a a' : Act} {w : World} {K : Value → World → Prop} (h : StepO P ops o a w K) (hag : ∀ t ∈ o.looksAt ops, a'.tmps[t]? = a.tmps[t]?) : StepO P ops o a' w K := by
  unfold StepO at *
  rw [wanted_agree o hag, exec_agree o hns hag]
  exact h
theorem StepO.wpOp {i : Nat} {o : Oper} (hi : ops[i]? = some o) {a : Act} {w : World} {K : Act → World → Prop} (h : StepO P ops o a w fun v w' => K (a.put o.dst v) w') : wpOp P ops Q i K a w := by
  obtain ⟨hw, h⟩ := h
  unfold Go.wpOp
  simp only [hi]
  rw [hw, if_pos rfl]
  refine .inl ?_
  unfold Oper.wp
  rcases h with ⟨v, w', h1, h2⟩ | ⟨f, args, w1, h1, h2⟩ | ⟨w', h1, h2⟩
  · rw [h1]; exact h2
  · rw [h1]
    refine h2.mono fun e w' ⟨v, h3, h4⟩ => ?_
    subst h3
    exact h4
  · rw [h1]; exact h2

/-- One order: what only reads may be taken as soon as it is ready; what changes the world, when nothing else is ready. -/
inductive PlanC (P : Program) (md : Region.Mode) (ops : Array Oper) (Q : Exit → Act → World → Prop) (I : World → Prop) (last : Nat) : Nat → Array Bool → Act → World → Prop
  | done {n : Nat} {listed : Array Bool} {a : Act} {w : World} (hr : Region.ready md ops listed = []) (h : Q .normal a w) : PlanC P md ops Q I last n listed a w
  | stop {n : Nat} {listed : Array Bool} {a : Act} {w : World} (hr : Region.ready md ops listed = [last]) (hf : Region.ready md ops (listed.setIfInBounds last true) = []) (h : wpOp P ops Q last (Q .normal) a w) : PlanC P md ops Q I last (n + 1) listed a w
  | take {n : Nat} {listed : Array Bool} {a : Act} {w : World} (i : Nat) (o : Oper) (v : Value) (hi : ops[i]? = some o) (hne : i ≠ last) (hf : Region.free md ops listed i = true) (hr : i ∈ Region.ready md ops listed)
      (hs : StepI P ops I o v a) (h : PlanC P md ops Q I last n (listed.setIfInBounds i true) (a.put o.dst v) w) : PlanC P md ops Q I last (n + 1) listed a w
  | step {n : Nat} {listed : Array Bool} {a : Act} {w : World} (i : Nat) (o : Oper) (hi : ops[i]? = some o) (hne : i ≠ last) (hr : Region.ready md ops listed = [i])
      (K : Value → World → Prop) (hs : StepO P ops o a w K) (hI : ∀ v w', K v w' → I w') (h : ∀ v w', K v w' → PlanC P md ops Q I last n (listed.setIfInBounds i true) (a.put o.dst v) w') : PlanC P md ops Q I last (n + 1) listed a w

theorem StepI.move {o : Oper} {v : Value} {a a1 : Act} (h : StepI P ops I o v a) (hag : ∀ t ∈ o.looksAt ops, a1.tmps[t]? = a.tmps[t]?) : StepI P ops I o v a1 :=
  fun a' w ha hI => h a' w (fun t ht => (ha t ht).trans (hag t ht)) hI

/-- Whatever may come up could have come up first. -/
theorem PlanC.first (hns : ∀ (i : Nat) (o : Oper) cs b, ops[i]? = some o → o.op ≠ .select cs b) {n last : Nat} {listed : Array Bool} {a : Act} {w : World} (h : PlanC P md ops Q I last n listed a w) : ∀ j, j ∈ Region.ready md ops listed → j ≠ last →
    ∃ m oj, n = m + 1 ∧ ops[j]? = some oj ∧ ((∃ u, StepI P ops I oj u a ∧ PlanC P md ops Q I last m (listed.setIfInBounds j true) (a.put oj.dst u) w) ∨
      (∃ K : Value → World → Prop, StepO P ops oj a w K ∧ (∀ v w', K v w' → I w') ∧ ∀ v w', K v w' → PlanC P md ops Q I last m (listed.setIfInBounds j true) (a.put oj.dst v) w')) := by
  induction h with
  | done hr h => intro j hj; rw [hr] at hj; cases hj
  | stop hr hf h => intro j hj hne; rw [hr] at hj; exact absurd (by simpa using hj) hne
  | step i o hi hne hr K hs hI h =>
    intro j hj _
    rw [hr] at hj
    obtain rfl : j = i := by simpa using hj
    exact ⟨_, o, rfl, hi, .inr ⟨K, hs, hI, h⟩⟩
  | @take n listed a w i o v hi hne hf hr hs h ih =>
    intro j hj hjl
    by_cases hji : j = i
    · subst hji; exact ⟨_, o, rfl, hi, .inl ⟨v, hs, h⟩⟩
    · obtain ⟨m, oj, rfl, hoj, hh⟩ := ih j (ready_mono hj hji) hjl
      obtain ⟨hjun, oj', hoj', hall⟩ := mem_ready.1 hj
      obtain rfl : oj' = oj := by rw [hoj] at hoj'; exact (Option.some.inj hoj').symm
      have hnot : ∀ e ∈ oj'.after, Region.binds md e = true → e.on ≠ i := fun e he hb heq => by
        have h1 := hall e he hb
        have h0 := (mem_ready.1 hr).1
        rw [heq] at h1
        rcases Nat.lt_or_ge i listed.size with h' | h'
        · simp [h'] at h0 h1; rw [h0] at h1; cases h1
        · simp [Array.getElem?_eq_none h'] at h1
      obtain ⟨h1, h2, h3⟩ := Oper.apart_spec (Region.free_spec hi hf j oj' hoj hji hjun hnot)
      refine ⟨m + 1, oj', rfl, hoj, ?_⟩
      have hst : ∀ u, StepI P ops I o v (a.put oj'.dst u) := fun u => hs.move (put_agree h3 a u)
      rcases hh with ⟨u, hsj, hp⟩ | ⟨K, hsj, hKI, hp⟩
      · refine .inl ⟨u, hsj.move fun t ht => (put_agree h1 a v t ht).symm, ?_⟩
        refine PlanC.take i o v hi hne (free_set hf) (ready_mono hr (Ne.symm hji)) (hst u) ?_
        rw [Array.setIfInBounds_comm _ _ hji, ← Act.put_comm a v u h2]
        exact hp
      · refine .inr ⟨K, hsj.move (hns j oj' · · hoj) fun t ht => (put_agree h1 a v t ht).symm, hKI, fun u w' hK => ?_⟩
        refine PlanC.take i o v hi hne (free_set hf) (ready_mono hr (Ne.symm hji)) (hst u) ?_
        rw [Array.setIfInBounds_comm _ _ hji, ← Act.put_comm a v u h2]
        exact hp u w' hK

theorem PlanC.any {last : Nat} (hL : Alone md ops last) (hns : ∀ (i : Nat) (o : Oper) cs b, ops[i]? = some o → o.op ≠ .select cs b) : ∀ (fuel n : Nat) (listed : Array Bool) (a : Act) (w : World), DC md ops listed → n ≤ fuel → I w → PlanC P md ops Q I last n listed a w → wpAny P md ops Q fuel listed a w
  | 0, n, listed, a, w, _, hn, hI, h => by
    cases h with
    | done hr h => exact ⟨hr, h⟩
    | stop => omega
    | take => omega
    | step => omega
  | fuel + 1, n, listed, a, w, hd, hn, hI, h => by
    refine ⟨fun hr => ?_, fun j hj => ?_⟩
    · cases h with
      | done _ h => exact h
      | stop hr' => rw [hr] at hr'; cases hr'
      | take i o v hi hne hf hr' => rw [hr] at hr'; cases hr'
      | step i o hi hne hr' => rw [hr] at hr'; cases hr'
    · by_cases hjl : j = last
      · subst hjl
        cases h with
        | done hr => rw [hr] at hj; cases hj
        | stop hr hf h => exact wpOp_mono (fun a' w' hq => wpAny_done hf hq fuel) h
        | take i o v hi hne hf hr' => exact absurd (hL listed hd hj i hr') hne
        | step i o hi hne hr' => exact absurd (hL listed hd hj i (by rw [hr']; simp)) hne
      · obtain ⟨m, oj, rfl, hoj, hh⟩ := h.first hns j hj hjl
        rcases hh with ⟨u, hsj, hp⟩ | ⟨K, hsj, hKI, hp⟩
        · have hrec := PlanC.any hL hns fuel m _ _ w (hd.set hj) (by omega) hI hp
          unfold wpOp
          simp only [hoj]
          rcases hsj a w (fun _ _ => rfl) hI with ⟨hw, rfl⟩ | ⟨hw, hrun⟩
          · rw [hw]; exact hrec
          · rw [hw, if_pos rfl]
            refine .inl ?_
            unfold Oper.wp
            rw [hrun]
            exact hrec
        · exact StepO.wpOp hoj (hsj.mono fun v w' hK => PlanC.any hL hns fuel m _ _ w' (hd.set hj) (by omega) (hKI v w' hK) (hp v w' hK))

/-- The order as a list: (operation, whether it changes the world). -/
def ChainL (P : Program) (ops : Array Oper) (E : Act → World → Prop) (I : World → Prop) : List (Nat × Bool) → Act → World → Prop
  | [], a, w => E a w
  | (i, false) :: r, a, w => ∃ o v, ops[i]? = some o ∧ StepI P ops I o v a ∧ ChainL P ops E I r (a.put o.dst v) w
  | (i, true) :: r, a, w => ∃ o, ops[i]? = some o ∧ StepO P ops o a w fun v w' => I w' ∧ ChainL P ops E I r (a.put o.dst v) w'

def chainGo (md : Region.Mode) (ops : Array Oper) (last : Nat) : List (Nat × Bool) → Array Bool → Bool
  | [], listed => if last < ops.size then (Region.ready md ops listed == [last]) && (Region.ready md ops (listed.setIfInBounds last true)).isEmpty else (Region.ready md ops listed).isEmpty
  | (i, false) :: r, listed => (i != last) && Region.free md ops listed i && (Region.ready md ops listed).contains i && chainGo md ops last r (listed.setIfInBounds i true)
  | (i, true) :: r, listed => (i != last) && (Region.ready md ops listed == [i]) && chainGo md ops last r (listed.setIfInBounds i true)
def chainOk (md : Region.Mode) (ops : Array Oper) (ord : List (Nat × Bool)) : Bool := Region.noSelect ops && decide (ord.length ≤ ops.size) && chainGo md ops ops.size ord (Array.replicate ops.size false)
def chainLastOk (md : Region.Mode) (ops : Array Oper) (ord : List (Nat × Bool)) : Bool := Region.noSelect ops && decide (ord.length + 1 ≤ ops.size) && chainGo md ops (ops.size - 1) ord (Array.replicate ops.size false) && lastOk md ops

theorem ChainL.plan {E : Act → World → Prop} {last k : Nat} (hk : last < ops.size → k = 1) (hE : ∀ a w, E a w → if last < ops.size then wpOp P ops Q last (Q .normal) a w else Q .normal a w) : ∀ (ord : List (Nat × Bool)) (listed : Array Bool) (a : Act) (w : World), chainGo md ops last ord listed = true → ChainL P ops E I ord a w → PlanC P md ops Q I last (ord.length + k) listed a w
  | [], listed, a, w, hc, h => by
    have h1 := hE _ _ h
    unfold chainGo at hc
    by_cases hl : last < ops.size
    · rw [if_pos hl] at hc h1
      simp only [Bool.and_eq_true, beq_iff_eq, List.isEmpty_iff] at hc
      obtain rfl := hk hl
      exact .stop hc.1 hc.2 h1
    · rw [if_neg hl] at hc h1
      exact .done (by simpa using hc) h1
  | (i, false) :: r, listed, a, w, hc, h => by
    obtain ⟨o, v, hi, hs, hr⟩ := h
    simp only [chainGo, Bool.and_eq_true, bne_iff_ne, ne_eq] at hc
    rw [List.length_cons, Nat.add_right_comm]
    exact .take i o v hi hc.1.1.1 hc.1.1.2 (by simpa using hc.1.2) hs (ChainL.plan hk hE r _ _ w hc.2 hr)
  | (i, true) :: r, listed, a, w, hc, h => by
    obtain ⟨o, hi, hs⟩ := h
    simp only [chainGo, Bool.and_eq_true, beq_iff_eq, bne_iff_ne, ne_eq] at hc
    rw [List.length_cons, Nat.add_right_comm]
    exact .step i o hi hc.1.1 hc.1.2 _ hs (fun v w' hK => hK.1) fun v w' hK => ChainL.plan hk hE r _ _ w' hc.2 hK.2

/-- THE LAW. -/
theorem wp_region_chain {id : Nat} {a : Act} {w : World} (I : World → Prop) (ord : List (Nat × Bool)) (hm : P.follows .mixedOrders = true) (hok : chainOk .any ops ord = true) (hI : I w.drew)
    (h : ChainL P ops (Q .normal) I ord a w.drew) : (Code.region id ops true).wp P Q a w := by
  refine wp_region_any hm ?_
  unfold chainOk at hok
  simp only [Bool.and_eq_true, decide_eq_true_eq] at hok
  exact PlanC.any alone_none (fun i o cs b hi => Region.noSelect_spec hok.1.1 i o cs b hi) ops.size (ord.length + 0) _ a w.drew (DC.none _) (by omega) hI
    (ChainL.plan (fun h => absurd h (Nat.lt_irrefl _)) (fun a w h => by rw [if_neg (Nat.lt_irrefl _)]; exact h) ord _ a _ hok.2 h)

/-- THE SAME where the last operation of the text waits for all others: I is not asked behind it. -/
theorem wp_region_chain_last {id : Nat} {a : Act} {w : World} (I : World → Prop) (ord : List (Nat × Bool)) (l : List Oper) (o : Oper) (hl0 : splitLast ops.toList = some (l, o)) (hg : o.guard = none) (hm : P.follows .mixedOrders = true) (hok : chainLastOk .any ops ord = true) (hI : I w.drew)
    (h : ChainL P ops (fun a w => o.wp P a w (Q .normal) Q) I ord a w.drew) : (Code.region id ops true).wp P Q a w := by
  refine wp_region_any hm ?_
  unfold chainLastOk at hok
  simp only [Bool.and_eq_true, decide_eq_true_eq] at hok
  have hlt : ops.size - 1 < ops.size := by omega
  have hl := splitLast_eq hl0
  have hn : ops.size = l.length + 1 := by
    have := congrArg List.length hl
    simpa using this
  have ho : ops[ops.size - 1]? = some o := by
    have : ops.toList[ops.size - 1]? = some o := by rw [hl, show ops.size - 1 = l.length by omega]; simp
    simpa using this
  have hw : ∀ y, Region.wanted o y = true := fun y => by unfold Region.wanted; rw [hg]
  exact PlanC.any (alone_last hok.2) (fun i o cs b hi => Region.noSelect_spec hok.1.1.1 i o cs b hi) ops.size (ord.length + 1) _ a w.drew (DC.none _) (by omega) hI
    (ChainL.plan (fun _ => rfl) (fun a w h => by rw [if_pos hlt]; unfold wpOp; simp only [ho]; rw [hw, if_pos rfl]; exact .inl h) ord _ a _ hok.1.2 h)

variable {E : Act → World → Prop} {i : Nat} {r : List (Nat × Bool)} {o : Oper} {a : Act} {w : World}
theorem ChainL.val {v : Value} (hi : ops[i]? = some o) (hns : ∀ cs b, o.op ≠ .select cs b) (hw : Region.wanted o (yielded ops a.tmps) = true) (h : ∀ w, I w → (execOp a.eval o).run P w = .ok (.value v) w)
    (hr : ChainL P ops E I r (a.put o.dst v) w) : ChainL P ops E I ((i, false) :: r) a w :=
  ⟨o, v, hi, fun a' w' hag hI => .inr ⟨by rw [wanted_agree o hag]; exact hw, by rw [exec_agree o hns hag]; exact h w' hI⟩, hr⟩
theorem ChainL.skip (hi : ops[i]? = some o) (hw : Region.wanted o (yielded ops a.tmps) = false) (hr : ChainL P ops E I r (a.put o.dst undef) w) : ChainL P ops E I ((i, false) :: r) a w :=
  ⟨o, undef, hi, fun a' w' hag hI => .inl ⟨by rw [wanted_agree o hag]; exact hw, rfl⟩, hr⟩
theorem ChainL.does {v : Value} {w1 : World} (hi : ops[i]? = some o) (hw : Region.wanted o (yielded ops a.tmps) = true) (h : (execOp a.eval o).run P w = .ok (.value v) w1) (hI : I w1)
    (hr : ChainL P ops E I r (a.put o.dst v) w1) : ChainL P ops E I ((i, true) :: r) a w :=
  ⟨o, hi, hw, .inl ⟨v, w1, h, hI, hr⟩⟩
theorem ChainL.call {f : FuncId} {args : Array Value} (hi : ops[i]? = some o) (hw : Region.wanted o (yielded ops a.tmps) = true) (he : (execOp a.eval o).run P w = .ok (.enter f args) w)
    (h : Calls P f args w fun e w' => ∃ v, e = .returned v ∧ I w' ∧ ChainL P ops E I r (a.put o.dst v) w') : ChainL P ops E I ((i, true) :: r) a w :=
  ⟨o, hi, hw, .inr (.inl ⟨f, args, w, he, h⟩)⟩
theorem ChainL.append (hi : ops[i]? = some o) (hw : Region.wanted o (yielded ops a.tmps) = true) (s x : Operand) (t : TypeId)
    (ho : o.op = .call { callee := .builtin .append, args := #[s, x], argTypes := #[t, t] })
    (base : Nat) (e : TypeId) (info : TypeInfo) (z : Value) (size bytes : Nat) (ht : P.underlying t = some (.slice e)) (hi' : P.info? e = some info) (hz : info.zero = some z)
    (hsize : info.size = size) (hby : info.bytes = bytes) (hzs : z.cells.size = size) (hsz : 0 < size)
    (v : Value) (n : Nat) (xs : List Value) (hs : a.eval s = v) (hown : w.ownsRow base e size v n xs)
    (B : Nat) (A : Option Addr) (m c : Nat) (news : List Value) (hx : a.eval x = .slice A m c) (hr : Lists w B A news) (hl : news.length = m * size) (h1 : ∀ u ∈ news, u.oneCell' = true)
    (h63 : n + m ≤ maxLen) (hbytes : (n + m) * bytes ≤ 140737488355328) (hbase : base ≤ w.heap.size)
    (h : ∀ v' w', w'.ownsRow base e size v' (n + m) (xs ++ news) → w.grownBy w' v.ownBlock → (v'.ownBlock = v.ownBlock ∨ v'.ownBlock = some w.heap.size) → I w' ∧ ChainL P ops E I r (a.put o.dst v') w') : ChainL P ops E I ((i, true) :: r) a w := by
  obtain ⟨v', w', hrun, h2, h3, h4⟩ := run_append_src (P := P) w base t o.type e info z size bytes ht hi' hz hsize hby hzs hsz v n xs hown B A m c news hr hl h1 h63 hbytes hbase
  refine ⟨o, hi, hw, .inl ⟨v', w', ?_, h v' w' h2 h3 h4⟩⟩
  unfold execOp
  simp only [ho, resolve, invoke, builtin, Sem.run_bind, Sem.run_pure, Result.andThen_ok, List.map_toArray, List.map_cons, List.map_nil, hs, hx, hrun]
theorem ChainL.store {w1 : World} (hi : ops[i]? = some o) (hw : Region.wanted o (yielded ops a.tmps) = true) (h : (execOp a.eval o).run P w = .ok .skip w1) (hI : I w1)
    (hr : ChainL P ops E I r (a.put o.dst undef) w1) : ChainL P ops E I ((i, true) :: r) a w :=
  ⟨o, hi, hw, .inr (.inr ⟨w1, h, hI, hr⟩)⟩
theorem ChainL.nil (h : E a w) : ChainL P ops E I [] a w := h
end

end Go.Proofs.Ytdbhfigdojkceaa
