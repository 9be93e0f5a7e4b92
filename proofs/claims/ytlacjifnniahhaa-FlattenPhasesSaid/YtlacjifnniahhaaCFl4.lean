/- Part 5 of the proof: Round, ChR, ChY, FlF, RangeCA. -/
import Derived.RangeFuncNested
import Derived.RangeFuncBound
import Derived.RangeFuncCalls
import Derived.RangeFuncLeaves
import Derived.OrdersIn
import Derived.Laws.Rows
import Derived.Laws.Tables
import Derived.Deep.Cut
import Derived.Deep.CutBlock
import Derived.RangeFuncKeeps
import Derived.RangeFuncFrom
import Derived.Shelf.Abstract
import Derived.Shelf.RegionOpen
import Derived.WalkKit
import Derived.OwnWalkIn
import Derived.TacticsInMore
import Derived.LoopNIn
import Derived.LoopIn
import Derived.Test.YtlacjifnniahhaaCFl3

namespace Go.Proofs.Ytlacjifnniahhaa
open Go Go.RowKit
set_option linter.unusedVariables false
set_option linter.unusedSimpArgs false

section
variable {P : Program} {ops : Array Oper} {Q : Exit → Act → World → Prop} {md : Region.Mode} {n r : Nat}

theorem oper_in {o : Oper} {a : Act} {w : World} {K : Act → World → Prop} (hd : ∀ c, o.op ≠ .defer c) (h : o.wp P a w K Q) : o.wpIn (Fence.wide.inRound r) n P a w K Q := by
  refine ⟨fun _ _ => trivial, ?_⟩
  rw [show (Fence.wide.inRound r).round = some r from rfl, Oper.semAt_some _ _ _ hd]
  unfold Oper.wp at h
  generalize (execOp a.eval o).run P w = x at *
  cases x with
  | ok y w' =>
    cases y <;> simp only [Oper.upon] at h <;> simp only [Oper.uponIn]
    case value => exact h
    case skip => exact h
    case defer => exact h
    case enter => exact ⟨fun hc => by simp [Fence.wide, Fence.inRound] at hc, CallsIn.inRound r (callsIn_wide.2 h)⟩
    case row => exact ⟨fun hc => by simp [Fence.wide, Fence.inRound] at hc, fun c cs _ => let ⟨v, w', k, s⟩ := h c cs; ⟨v, w', k, stepsIn_wide.2 s⟩⟩
  | halt y w' =>
    cases y <;> simp only [Oper.upon] at h <;> simp only [Oper.uponIn]
    exact h
def noDefer (ops : Array Oper) : Bool := ops.toList.all fun o => match o.op with | .defer _ => false | _ => true
theorem noDefer_spec (h : noDefer ops = true) {i : Nat} {o : Oper} (hi : ops[i]? = some o) : ∀ c, o.op ≠ .defer c := fun c e => by
  have hm : o ∈ ops.toList := by
    obtain ⟨k, hk⟩ := Array.getElem?_eq_some_iff.1 hi
    exact List.mem_iff_getElem.2 ⟨i, by simpa using k, by simpa using hk⟩
  have := List.all_eq_true.1 h o hm
  rw [e] at this
  cases this
theorem opOp_in (hd : noDefer ops = true) (hQ : ¬ LetsOut Q) {i : Nat} {a : Act} {w : World} {K : Act → World → Prop} (h : wpOp P ops Q i K a w) : wpOpIn (Fence.wide.inRound r) n P ops Q i K a w := by
  unfold wpOp at h
  unfold wpOpIn
  cases ho : ops[i]? with
  | none => rw [ho] at h; exact h
  | some o =>
    rw [ho] at h
    simp only at h ⊢
    split at h
    · rename_i hw
      rw [if_pos hw]
      rcases h with h | h
      · exact oper_in (noDefer_spec hd ho) h
      · exact absurd h.2 hQ
    · rename_i hw
      rw [if_neg hw]
      exact ⟨fun _ _ => trivial, h⟩
theorem any_in (hd : noDefer ops = true) (hQ : ¬ LetsOut Q) : ∀ (fuel : Nat) (listed : Array Bool) (a : Act) (w : World), wpAny P md ops Q fuel listed a w → wpAnyIn (Fence.wide.inRound r) n P md ops Q fuel listed a w
  | 0, _, _, _, h => h
  | fuel + 1, _, _, _, h => ⟨h.1, fun i hi => wpOpIn_mono (fun _ _ k => any_in hd hQ fuel _ _ _ k) (opOp_in hd hQ (h.2 i hi))⟩
/-- A region whose order is open, in a round: walked in one order. -/
theorem wpIn_region_chain {id : Nat} {a : Act} {w : World} (I : World → Prop) (ord : List (Nat × Bool)) (hm : P.follows .mixedOrders = true) (hd : noDefer ops = true) (hok : chainOk .any ops ord = true) (hQ : ¬ LetsOut Q) (hI : I w.drew)
    (h : ChainL P ops (Q .normal) I ord a w.drew) : (Code.region id ops true).wpIn (Fence.wide.inRound r) n P Q a w := by
  refine wpIn_region_any hm ?_
  unfold chainOk at hok
  simp only [Bool.and_eq_true, decide_eq_true_eq] at hok
  exact any_in hd hQ _ _ _ _ (PlanC.any alone_none (fun i o cs b hi => Region.noSelect_spec hok.1.1 i o cs b hi) ops.size (ord.length + 0) _ a w.drew (DC.none _) (by omega) hI
    (ChainL.plan (fun h => absurd h (Nat.lt_irrefl _)) (fun a w h => by rw [if_neg (Nat.lt_irrefl _)]; exact h) ord _ a _ hok.2 h))

variable {rest : List Oper} {o : Oper} {a : Act} {w : World}
/-- Plain regions' steps on whole rows, in a round. -/
theorem wpListIn_load_row (hgd : o.guard = none) (ty : TypeId) (x : Operand) (ho : o.op = .load ty x)
    (g : Nat) (hx : a.eval x = .pointer (some ⟨g, 0, none⟩)) (t : TypeId) (cs : Array Value) (fr : Nat × Nat) (d : TypeDesc) (hg : w.heap[g]? = some (.cells cs t fr))
    (hu : P.underlying ty = some d) (hd : (match d with | .struct _ | .array _ _ => true | _ => false) = true) (hi : (P.info? ty).map (·.size) = some cs.size)
    (h : wpListIn (Fence.wide.inRound r) n P ops Q rest (a.put o.dst (.agg cs)) w) : wpListIn (Fence.wide.inRound r) n P ops Q (o :: rest) a w :=
  wpListIn_plain hgd fun _ hK => oper_in (fun c e => by rw [ho] at e; cases e) (wp_load_row ty x ho g hx t cs fr d hg hu hd hi (hK _ _ h))
theorem wpListIn_store_row (hgd : o.guard = none) (ty : TypeId) (x y : Operand) (ho : o.op = .store ty x y)
    (g : Nat) (cells : Array Value) (hx : a.eval x = .pointer (some ⟨g, 0, none⟩)) (hy : a.eval y = .agg cells)
    (t : TypeId) (old : Array Value) (hg : w.heap[g]? = some (.cells old t (0, 0))) (hi : (P.info? ty).map (·.size) = some cells.size)
    (hold : old.size = cells.size) (h1 : cells.all (·.oneCell') = true)
    (h : wpListIn (Fence.wide.inRound r) n P ops Q rest (a.put o.dst undef) (w.setRow g cells)) : wpListIn (Fence.wide.inRound r) n P ops Q (o :: rest) a w :=
  wpListIn_plain hgd fun _ hK => oper_in (fun c e => by rw [ho] at e; cases e) (wp_store_row ty x y ho g cells hx hy t old hg hi hold h1 (hK _ _ h))
end
end Go.Proofs.Ytlacjifnniahhaa

namespace Go.Proofs.Ytlacjifnniahhaa
open Go Go.RowKit
set_option linter.unusedVariables false
set_option linter.unusedSimpArgs false

section
variable {P : Program} {ops : Array Oper} {Q : Exit → Act → World → Prop} {md : Region.Mode} {I : World → Prop}
/-- Operation o at this act and world: it is wanted, and yields a value, by itself or by a call; K holds of it and of the world behind it. -/
def StepR (P : Program) (ops : Array Oper) (o : Oper) (a : Act) (w : World) (K : Value → World → Prop) : Prop :=
  Region.wanted o (yielded ops a.tmps) = true ∧ (∀ c, o.op ≠ .defer c) ∧ ((∃ v w', (execOp a.eval o).run P w = .ok (.value v) w' ∧ K v w') ∨ (∃ f args w1, (execOp a.eval o).run P w = .ok (.enter f args) w1 ∧ Calls P f args w1 fun e w' => ∃ v, e = .returned v ∧ K v w') ∨ (∃ w', (execOp a.eval o).run P w = .ok .skip w' ∧ K undef w') ∨
    (∃ l f tmps assign body w1, (execOp a.eval o).run P w = .ok (.round l f tmps assign body) w1 ∧ RoundIn Fence.wide 0 P l f tmps assign body w1 fun e w' => ∃ v, e = .returned v ∧ K v w'))

theorem StepR.mono {o : Oper} {a : Act} {w : World} {K K' : Value → World → Prop} (h : StepR P ops o a w K) (hK : ∀ v w', K v w' → K' v w') : StepR P ops o a w K' := by
  obtain ⟨hw, hd, h | h | h | h⟩ := h
  · obtain ⟨v, w', h1, h2⟩ := h
    exact ⟨hw, hd, .inl ⟨v, w', h1, hK _ _ h2⟩⟩
  · obtain ⟨f, args, w1, h1, h2⟩ := h
    exact ⟨hw, hd, .inr (.inl ⟨f, args, w1, h1, h2.mono fun e w' ⟨v, h3, h4⟩ => ⟨v, h3, hK _ _ h4⟩⟩)⟩
  · obtain ⟨w', h1, h2⟩ := h
    exact ⟨hw, hd, .inr (.inr (.inl ⟨w', h1, hK _ _ h2⟩))⟩
  · obtain ⟨l, f, tm, ars, bd, w1, h1, h2⟩ := h
    exact ⟨hw, hd, .inr (.inr (.inr ⟨l, f, tm, ars, bd, w1, h1, h2.mono fun e w' ⟨v, h3, h4⟩ => ⟨v, h3, hK _ _ h4⟩⟩))⟩
theorem StepR.move {o : Oper} (hns : ∀ cs b, o.op ≠ .select cs b) {a a' : Act} {w : World} {K : Value → World → Prop} (h : StepR P ops o a w K) (hag : ∀ t ∈ o.looksAt ops, a'.tmps[t]? = a.tmps[t]?) : StepR P ops o a' w K := by
  unfold StepR at *
  rw [wanted_agree o hag, exec_agree o hns hag]
  exact h
/-- The fence of a function's body, or of a round's. -/
def Wd (F : Fence) : Prop := ∃ ro, F = { Fence.wide with round := ro }
theorem Wd.wide : Wd Fence.wide := ⟨none, rfl⟩
theorem Wd.inRound (l : Nat) : Wd (Fence.wide.inRound l) := ⟨some l, rfl⟩
theorem roundIn_any {F : Fence} (hF : Wd F) {m : Nat} (n : Nat) {l : Nat} {f : FuncId} {tmps : Array Value} {assign body : Code} {w : World} {R : Ending → World → Prop} (h : RoundIn Fence.wide m P l f tmps assign body w R) : RoundIn F n P l f tmps assign body w R := by
  obtain ⟨ro, rfl⟩ := hF
  exact ⟨h.1, fun c cs _ => h.2 c cs (room_wide _)⟩
theorem callsIn_any {F : Fence} (hF : Wd F) (n : Nat) {f : FuncId} {args : Array Value} {w : World} {R : Ending → World → Prop} (h : Calls P f args w R) : CallsIn F n P f args w R := by
  obtain ⟨ro, rfl⟩ := hF
  exact (callsIn_wide (n := n)).2 h
theorem StepR.wpOp {F : Fence} (hF : Wd F) {n i : Nat} {o : Oper} (hi : ops[i]? = some o) {a : Act} {w : World} {K : Act → World → Prop} (h : StepR P ops o a w fun v w' => K (a.put o.dst v) w') : wpOpIn F n P ops Q i K a w := by
  obtain ⟨hw, hd, h⟩ := h
  unfold Go.wpOpIn
  simp only [hi]
  rw [hw, if_pos rfl]
  have hfn : ∀ g, F.fn g := by obtain ⟨ro, rfl⟩ := hF; exact fun _ => trivial
  have hdp : ¬ (F.depth.isSome = true) := by obtain ⟨ro, rfl⟩ := hF; simp [Fence.wide]
  refine ⟨fun f _ => hfn f, ?_⟩
  rw [Oper.semAt_eq _ _ _ hd]
  rcases h with ⟨v, w', h1, h2⟩ | ⟨f, args, w1, h1, h2⟩ | ⟨w', h1, h2⟩ | ⟨l, f, tm, ars, bd, w1, h1, h2⟩
  · rw [h1]; exact h2
  · rw [h1]
    refine ⟨fun hc => absurd hc hdp, callsIn_any hF _ (h2.mono fun e w' ⟨v, h3, h4⟩ => ?_)⟩
    subst h3
    exact h4
  · rw [h1]; exact h2
  · rw [h1]
    refine ⟨fun hc => absurd hc hdp, roundIn_any hF _ (h2.mono fun e w' ⟨v, h3, h4⟩ => ?_)⟩
    subst h3
    exact h4

/-- One order: what only reads may be taken as soon as it is ready; what changes the world, when nothing else is ready. -/
inductive PlanR (P : Program) (md : Region.Mode) (ops : Array Oper) (Q : Exit → Act → World → Prop) (I : World → Prop) : Nat → Array Bool → Act → World → Prop
  | done {n : Nat} {listed : Array Bool} {a : Act} {w : World} (hr : Region.ready md ops listed = []) (h : Q .normal a w) : PlanR P md ops Q I n listed a w
  | take {n : Nat} {listed : Array Bool} {a : Act} {w : World} (i : Nat) (o : Oper) (v : Value) (hi : ops[i]? = some o) (hf : Region.free md ops listed i = true) (hr : i ∈ Region.ready md ops listed)
      (hs : StepI P ops I o v a) (h : PlanR P md ops Q I n (listed.setIfInBounds i true) (a.put o.dst v) w) : PlanR P md ops Q I (n + 1) listed a w
  | step {n : Nat} {listed : Array Bool} {a : Act} {w : World} (i : Nat) (o : Oper) (hi : ops[i]? = some o) (hr : Region.ready md ops listed = [i])
      (K : Value → World → Prop) (hs : StepR P ops o a w K) (hI : ∀ v w', K v w' → I w') (h : ∀ v w', K v w' → PlanR P md ops Q I n (listed.setIfInBounds i true) (a.put o.dst v) w') : PlanR P md ops Q I (n + 1) listed a w

/-- Whatever may come up could have come up first. -/
theorem PlanR.first (hns : ∀ (i : Nat) (o : Oper) cs b, ops[i]? = some o → o.op ≠ .select cs b) {n : Nat} {listed : Array Bool} {a : Act} {w : World} (h : PlanR P md ops Q I n listed a w) : ∀ j, j ∈ Region.ready md ops listed →
    ∃ m oj, n = m + 1 ∧ ops[j]? = some oj ∧ ((∃ u, StepI P ops I oj u a ∧ PlanR P md ops Q I m (listed.setIfInBounds j true) (a.put oj.dst u) w) ∨
      (∃ K : Value → World → Prop, StepR P ops oj a w K ∧ (∀ v w', K v w' → I w') ∧ ∀ v w', K v w' → PlanR P md ops Q I m (listed.setIfInBounds j true) (a.put oj.dst v) w')) := by
  induction h with
  | done hr h => intro j hj; rw [hr] at hj; cases hj
  | step i o hi hr K hs hI h =>
    intro j hj
    rw [hr] at hj
    obtain rfl : j = i := by simpa using hj
    exact ⟨_, o, rfl, hi, .inr ⟨K, hs, hI, h⟩⟩
  | @take n listed a w i o v hi hf hr hs h ih =>
    intro j hj
    by_cases hji : j = i
    · subst hji; exact ⟨_, o, rfl, hi, .inl ⟨v, hs, h⟩⟩
    · obtain ⟨m, oj, rfl, hoj, hh⟩ := ih j (ready_mono hj hji)
      obtain ⟨hjun, oj', hoj', hall⟩ := mem_ready.1 hj
      obtain rfl : oj' = oj := by rw [hoj] at hoj'; exact (Option.some.inj hoj').symm
      have hnot : ∀ e ∈ oj'.after, Region.binds md e = true → e.on ≠ i := fun e he hb heq => by
        have h1 := hall e he hb
        have h0 := (mem_ready.1 hr).1
        rw [heq] at h1
        rcases Nat.lt_or_ge i listed.size with h' | h'
        · simp [h'] at h0 h1; rw [h0] at h1; cases h1
        · simp [Array.getElem?_eq_none h'] at h1
      obtain ⟨h1, h2, h3⟩ := Oper.apart_spec (Region.free_spec hi hf j oj' hoj hji hjun hnot)
      refine ⟨m + 1, oj', rfl, hoj, ?_⟩
      have hst : ∀ u, StepI P ops I o v (a.put oj'.dst u) := fun u => hs.move (put_agree h3 a u)
      rcases hh with ⟨u, hsj, hp⟩ | ⟨K, hsj, hKI, hp⟩
      · refine .inl ⟨u, hsj.move fun t ht => (put_agree h1 a v t ht).symm, ?_⟩
        refine PlanR.take i o v hi (free_set hf) (ready_mono hr (Ne.symm hji)) (hst u) ?_
        rw [Array.setIfInBounds_comm _ _ hji, ← Act.put_comm a v u h2]
        exact hp
      · refine .inr ⟨K, hsj.move (hns j oj' · · hoj) fun t ht => (put_agree h1 a v t ht).symm, hKI, fun u w' hK => ?_⟩
        refine PlanR.take i o v hi (free_set hf) (ready_mono hr (Ne.symm hji)) (hst u) ?_
        rw [Array.setIfInBounds_comm _ _ hji, ← Act.put_comm a v u h2]
        exact hp u w' hK

theorem PlanR.any {F : Fence} (hF : Wd F) {nn : Nat} (hns : ∀ (i : Nat) (o : Oper) cs b, ops[i]? = some o → o.op ≠ .select cs b) (hnd : ∀ (i : Nat) (o : Oper) c, ops[i]? = some o → o.op ≠ .defer c) : ∀ (fuel n : Nat) (listed : Array Bool) (a : Act) (w : World), DC md ops listed → n ≤ fuel → I w → PlanR P md ops Q I n listed a w → wpAnyIn F nn P md ops Q fuel listed a w
  | 0, n, listed, a, w, _, hn, hI, h => by
    cases h with
    | done hr h => exact ⟨hr, h⟩
    | take => omega
    | step => omega
  | fuel + 1, n, listed, a, w, hd, hn, hI, h => by
    have hfn : ∀ g, F.fn g := by obtain ⟨ro, rfl⟩ := hF; exact fun _ => trivial
    refine ⟨fun hr => ?_, fun j hj => ?_⟩
    · cases h with
      | done _ h => exact h
      | take i o v hi hf hr' => rw [hr] at hr'; cases hr'
      | step i o hi hr' => rw [hr] at hr'; cases hr'
    · obtain ⟨m, oj, rfl, hoj, hh⟩ := h.first hns j hj
      rcases hh with ⟨u, hsj, hp⟩ | ⟨K, hsj, hKI, hp⟩
      · have hrec := PlanR.any hF (nn := nn) hns hnd fuel m _ _ w (hd.set hj) (by omega) hI hp
        unfold wpOpIn
        simp only [hoj]
        rcases hsj a w (fun _ _ => rfl) hI with ⟨hw, rfl⟩ | ⟨hw, hrun⟩
        · rw [hw]; exact ⟨fun f _ => hfn f, hrec⟩
        · rw [hw, if_pos rfl]
          refine ⟨fun f _ => hfn f, ?_⟩
          rw [Oper.semAt_eq _ _ _ (fun c => hnd j oj c hoj), hrun]
          exact hrec
      · exact StepR.wpOp hF hoj (hsj.mono fun v w' hK => PlanR.any hF hns hnd fuel m _ _ w' (hd.set hj) (by omega) (hKI v w' hK) (hp v w' hK))

/-- The order as a list: (operation, whether it changes the world). -/
def ChainR (P : Program) (ops : Array Oper) (E : Act → World → Prop) (I : World → Prop) : List (Nat × Bool) → Act → World → Prop
  | [], a, w => E a w
  | (i, false) :: r, a, w => ∃ o v, ops[i]? = some o ∧ StepI P ops I o v a ∧ ChainR P ops E I r (a.put o.dst v) w
  | (i, true) :: r, a, w => ∃ o, ops[i]? = some o ∧ StepR P ops o a w fun v w' => I w' ∧ ChainR P ops E I r (a.put o.dst v) w'

theorem ChainR.plan : ∀ (ord : List (Nat × Bool)) (listed : Array Bool) (a : Act) (w : World), chainGo md ops ops.size ord listed = true → ChainR P ops (Q .normal) I ord a w → PlanR P md ops Q I ord.length listed a w
  | [], listed, a, w, hc, h => by
    unfold chainGo at hc
    rw [if_neg (Nat.lt_irrefl _)] at hc
    exact .done (by simpa using hc) h
  | (i, false) :: r, listed, a, w, hc, h => by
    obtain ⟨o, v, hi, hs, hr⟩ := h
    simp only [chainGo, Bool.and_eq_true, bne_iff_ne, ne_eq] at hc
    exact .take i o v hi hc.1.1.2 (by simpa using hc.1.2) hs (ChainR.plan r _ _ w hc.2 hr)
  | (i, true) :: r, listed, a, w, hc, h => by
    obtain ⟨o, hi, hs⟩ := h
    simp only [chainGo, Bool.and_eq_true, beq_iff_eq, bne_iff_ne, ne_eq] at hc
    exact .step i o hi hc.1.2 _ hs (fun v w' hK => hK.1) fun v w' hK => ChainR.plan r _ _ w' hc.2 hK.2

/-- THE LAW. -/
theorem wpIn_region_chainR {F : Fence} (hF : Wd F) {n id : Nat} {a : Act} {w : World} (I : World → Prop) (ord : List (Nat × Bool)) (hm : P.follows .mixedOrders = true) (hd : noDefer ops = true) (hok : chainOk .any ops ord = true) (hI : I w.drew)
    (h : ChainR P ops (Q .normal) I ord a w.drew) : (Code.region id ops true).wpIn F n P Q a w := by
  refine wpIn_region_any hm ?_
  unfold chainOk at hok
  simp only [Bool.and_eq_true, decide_eq_true_eq] at hok
  exact PlanR.any hF (fun i o cs b hi => Region.noSelect_spec hok.1.1 i o cs b hi) (fun i o c hi => noDefer_spec hd hi c) ops.size ord.length _ a w.drew (DC.none _) (by omega) hI
    (ChainR.plan ord _ a _ hok.2 h)

variable {E : Act → World → Prop} {i : Nat} {r : List (Nat × Bool)} {o : Oper} {a : Act} {w : World}
theorem ChainR.val {v : Value} (hi : ops[i]? = some o) (hns : ∀ cs b, o.op ≠ .select cs b) (hw : Region.wanted o (yielded ops a.tmps) = true) (h : ∀ w, I w → (execOp a.eval o).run P w = .ok (.value v) w)
    (hr : ChainR P ops E I r (a.put o.dst v) w) : ChainR P ops E I ((i, false) :: r) a w :=
  ⟨o, v, hi, fun a' w' hag hI => .inr ⟨by rw [wanted_agree o hag]; exact hw, by rw [exec_agree o hns hag]; exact h w' hI⟩, hr⟩
theorem ChainR.skip (hi : ops[i]? = some o) (hw : Region.wanted o (yielded ops a.tmps) = false) (hr : ChainR P ops E I r (a.put o.dst undef) w) : ChainR P ops E I ((i, false) :: r) a w :=
  ⟨o, undef, hi, fun a' w' hag hI => .inl ⟨by rw [wanted_agree o hag]; exact hw, rfl⟩, hr⟩
theorem ChainR.does {v : Value} {w1 : World} (hi : ops[i]? = some o) (hnd : ∀ c, o.op ≠ .defer c) (hw : Region.wanted o (yielded ops a.tmps) = true) (h : (execOp a.eval o).run P w = .ok (.value v) w1) (hI : I w1)
    (hr : ChainR P ops E I r (a.put o.dst v) w1) : ChainR P ops E I ((i, true) :: r) a w :=
  ⟨o, hi, hw, hnd, .inl ⟨v, w1, h, hI, hr⟩⟩
theorem ChainR.call {f : FuncId} {args : Array Value} (hi : ops[i]? = some o) (hnd : ∀ c, o.op ≠ .defer c) (hw : Region.wanted o (yielded ops a.tmps) = true) (he : (execOp a.eval o).run P w = .ok (.enter f args) w)
    (h : Calls P f args w fun e w' => ∃ v, e = .returned v ∧ I w' ∧ ChainR P ops E I r (a.put o.dst v) w') : ChainR P ops E I ((i, true) :: r) a w :=
  ⟨o, hi, hw, hnd, .inr (.inl ⟨f, args, w, he, h⟩)⟩
/-- A call of yield. -/
theorem ChainR.yield {l f : Nat} {tmps : Array Value} {assign body : Code} {m : Nat} (hi : ops[i]? = some o) (hnd : ∀ c, o.op ≠ .defer c) (hw : Region.wanted o (yielded ops a.tmps) = true) (he : (execOp a.eval o).run P w = .ok (.round l f tmps assign body) w)
    (h : RoundIn Fence.wide m P l f tmps assign body w fun e w' => ∃ v, e = .returned v ∧ I w' ∧ ChainR P ops E I r (a.put o.dst v) w') : ChainR P ops E I ((i, true) :: r) a w :=
  ⟨o, hi, hw, hnd, .inr (.inr (.inr ⟨l, f, tmps, assign, body, w, he, roundIn_any Wd.wide 0 h⟩))⟩
theorem ChainR.store {w1 : World} (hi : ops[i]? = some o) (hnd : ∀ c, o.op ≠ .defer c) (hw : Region.wanted o (yielded ops a.tmps) = true) (h : (execOp a.eval o).run P w = .ok .skip w1) (hI : I w1)
    (hr : ChainR P ops E I r (a.put o.dst undef) w1) : ChainR P ops E I ((i, true) :: r) a w :=
  ⟨o, hi, hw, hnd, .inr (.inr (.inl ⟨w1, h, hI, hr⟩))⟩
theorem ChainR.nil (h : E a w) : ChainR P ops E I [] a w := h
end

end Go.Proofs.Ytlacjifnniahhaa

namespace Go.Proofs.Ytlacjifnniahhaa
open Go Go.RowKit
set_option linter.unusedVariables false
set_option linter.unusedSimpArgs false

section
variable {P : Program} {ops : Array Oper} {Q : Exit → Act → World → Prop} {md : Region.Mode} {I : World → Prop}

def marksY (md : Region.Mode) (ops : Array Oper) (y : Nat) : Array Bool := markDown md ops ops.size ((Array.replicate ops.size false).setIfInBounds y true)
theorem marked_listed {listed : Array Bool} (hd : DC md ops listed) {y : Nat} (hy : y ∈ Region.ready md ops listed) {i : Nat} (h : (marksY md ops y).getD i false = true) : i = y ∨ listed.getD i false = true := by
  have hd' := hd.set hy
  have h0 : ∀ j, ((Array.replicate ops.size false).setIfInBounds y true).getD j false = true → (listed.setIfInBounds y true).getD j false = true := by
    intro j hj
    by_cases hjl : y = j
    · subst hjl
      have := (mem_ready.1 hy).1
      rcases Nat.lt_or_ge y listed.size with h' | h'
      · simp [h']
      · simp [Array.getElem?_eq_none h'] at this
    · rw [getD_set_ne false hjl] at hj
      by_cases h2 : j < ops.size <;> simp [h2] at hj
  have := markDown_spec hd' _ _ h0 i h
  by_cases hil : i = y
  · exact .inl hil
  · rw [getD_set_ne false (Ne.symm hil)] at this
    exact .inr this
theorem unlisted {listed : Array Bool} {i : Nat} (h : i ∈ Region.ready md ops listed) : listed.getD i false = false := by
  have hiun := (mem_ready.1 h).1
  rcases Nat.lt_or_ge i listed.size with h' | h'
  · simp [h'] at hiun ⊢; exact hiun
  · simp [Array.getElem?_eq_none h'] at hiun
def aloneAt (md : Region.Mode) (ops : Array Oper) (y : Nat) : Bool := (List.range ops.size).all fun k => (marksY md ops y).getD k false || (marksY md ops k).getD y false
theorem alone_at {y : Nat} (h : aloneAt md ops y = true) : Alone md ops y := by
  intro listed hd hy i hi
  obtain ⟨_, o, ho, _⟩ := mem_ready.1 hi
  have hlt : i < ops.size := (Array.getElem?_eq_some_iff.1 ho).1
  unfold aloneAt at h
  simp only [List.all_eq_true, List.mem_range, Bool.or_eq_true] at h
  rcases h i hlt with h1 | h1
  · rcases marked_listed hd hy h1 with h2 | h2
    · exact h2
    · rw [unlisted hi] at h2; cases h2
  · rcases marked_listed hd hi h1 with h2 | h2
    · exact h2.symm
    · rw [unlisted hy] at h2; cases h2

inductive PlanY (F : Fence) (nn : Nat) (P : Program) (md : Region.Mode) (ops : Array Oper) (Q : Exit → Act → World → Prop) (I : World → Prop) (y : Nat) : Nat → Array Bool → Act → World → Prop
  | stop {r : Nat} {listed : Array Bool} {a : Act} {w : World} (hr : Region.ready md ops listed = [y]) (h : ∀ fuel, r ≤ fuel → DC md ops (listed.setIfInBounds y true) → wpOpIn F nn P ops Q y (wpAnyIn F nn P md ops Q fuel (listed.setIfInBounds y true)) a w) : PlanY F nn P md ops Q I y (r + 1) listed a w
  | take {n : Nat} {listed : Array Bool} {a : Act} {w : World} (i : Nat) (o : Oper) (v : Value) (hi : ops[i]? = some o) (hne : i ≠ y) (hf : Region.free md ops listed i = true) (hr : i ∈ Region.ready md ops listed)
      (hs : StepI P ops I o v a) (h : PlanY F nn P md ops Q I y n (listed.setIfInBounds i true) (a.put o.dst v) w) : PlanY F nn P md ops Q I y (n + 1) listed a w

theorem PlanY.first {F : Fence} {nn y : Nat} {n : Nat} {listed : Array Bool} {a : Act} {w : World} (h : PlanY F nn P md ops Q I y n listed a w) : ∀ j, j ∈ Region.ready md ops listed → j ≠ y →
    ∃ m oj u, n = m + 1 ∧ ops[j]? = some oj ∧ StepI P ops I oj u a ∧ PlanY F nn P md ops Q I y m (listed.setIfInBounds j true) (a.put oj.dst u) w := by
  induction h with
  | stop hr h => intro j hj hne; rw [hr] at hj; exact absurd (by simpa using hj) hne
  | @take n listed a w i o v hi hne hf hr hs h ih =>
    intro j hj hjl
    by_cases hji : j = i
    · subst hji; exact ⟨_, o, v, rfl, hi, hs, h⟩
    · obtain ⟨m, oj, u, rfl, hoj, hsj, hp⟩ := ih j (ready_mono hj hji) hjl
      obtain ⟨hjun, oj', hoj', hall⟩ := mem_ready.1 hj
      obtain rfl : oj' = oj := by rw [hoj] at hoj'; exact (Option.some.inj hoj').symm
      have hnot : ∀ e ∈ oj'.after, Region.binds md e = true → e.on ≠ i := fun e he hb heq => by
        have h1 := hall e he hb
        have h0 := (mem_ready.1 hr).1
        rw [heq] at h1
        rcases Nat.lt_or_ge i listed.size with h' | h'
        · simp [h'] at h0 h1; rw [h0] at h1; cases h1
        · simp [Array.getElem?_eq_none h'] at h1
      obtain ⟨h1, h2, h3⟩ := Oper.apart_spec (Region.free_spec hi hf j oj' hoj hji hjun hnot)
      have hst : ∀ u, StepI P ops I o v (a.put oj'.dst u) := fun u => hs.move (put_agree h3 a u)
      refine ⟨m + 1, oj', u, rfl, hoj, hsj.move fun t ht => (put_agree h1 a v t ht).symm, ?_⟩
      refine PlanY.take i o v hi hne (free_set hf) (ready_mono hr (Ne.symm hji)) (hst u) ?_
      rw [Array.setIfInBounds_comm _ _ hji, ← Act.put_comm a v u h2]
      exact hp

theorem PlanY.any {F : Fence} (hF : Wd F) {nn y : Nat} (hL : Alone md ops y) (hnd : ∀ (i : Nat) (o : Oper) c, ops[i]? = some o → o.op ≠ .defer c) : ∀ (fuel n : Nat) (listed : Array Bool) (a : Act) (w : World), DC md ops listed → n ≤ fuel → I w → PlanY F nn P md ops Q I y n listed a w → wpAnyIn F nn P md ops Q fuel listed a w
  | 0, n, listed, a, w, _, hn, hI, h => by
    cases h with
    | stop => omega
    | take => omega
  | fuel + 1, n, listed, a, w, hd, hn, hI, h => by
    have hfn : ∀ g, F.fn g := by obtain ⟨ro, rfl⟩ := hF; exact fun _ => trivial
    refine ⟨fun hr => ?_, fun j hj => ?_⟩
    · cases h with
      | stop hr' => rw [hr] at hr'; cases hr'
      | take i o v hi hne hf hr' => rw [hr] at hr'; cases hr'
    · by_cases hjl : j = y
      · subst hjl
        cases h with
        | stop hr h => exact h fuel (by omega) (hd.set hj)
        | take i o v hi hne hf hr' => exact absurd (hL listed hd hj i hr') hne
      · obtain ⟨m, oj, u, rfl, hoj, hsj, hp⟩ := h.first j hj hjl
        have hrec := PlanY.any hF (nn := nn) hL hnd fuel m _ _ w (hd.set hj) (by omega) hI hp
        unfold wpOpIn
        simp only [hoj]
        rcases hsj a w (fun _ _ => rfl) hI with ⟨hw, rfl⟩ | ⟨hw, hrun⟩
        · rw [hw]; exact ⟨fun f _ => hfn f, hrec⟩
        · rw [hw, if_pos rfl]
          refine ⟨fun f _ => hfn f, ?_⟩
          rw [Oper.semAt_eq _ _ _ (fun c => hnd j oj c hoj), hrun]
          exact hrec
def yldGo (md : Region.Mode) (ops : Array Oper) (y : Nat) (rest : List (Nat × Bool)) : List Nat → Array Bool → Bool
  | [], listed => (Region.ready md ops listed == [y]) && chainGo md ops ops.size rest (listed.setIfInBounds y true)
  | i :: r, listed => (i != y) && Region.free md ops listed i && (Region.ready md ops listed).contains i && yldGo md ops y rest r (listed.setIfInBounds i true)
def yldOk (md : Region.Mode) (ops : Array Oper) (ord : List Nat) (y : Nat) (rest : List (Nat × Bool)) : Bool := Region.noSelect ops && decide (ord.length + (rest.length + 1) ≤ ops.size) && yldGo md ops y rest ord (Array.replicate ops.size false) && aloneAt md ops y
theorem StepR.yld {o : Oper} {a : Act} {w : World} {K : Value → World → Prop} {l f : Nat} {tmps : Array Value} {assign body : Code} {m : Nat} (hnd : ∀ c, o.op ≠ .defer c) (hw : Region.wanted o (yielded ops a.tmps) = true) (he : (execOp a.eval o).run P w = .ok (.round l f tmps assign body) w)
    (h : RoundIn Fence.wide m P l f tmps assign body w fun e w' => ∃ v, e = .returned v ∧ K v w') : StepR P ops o a w K :=
  ⟨hw, hnd, .inr (.inr (.inr ⟨l, f, tmps, assign, body, w, he, roundIn_any Wd.wide 0 h⟩))⟩
/-- THE LAW: first ord (all read), then y, then rest. -/
theorem wpIn_region_yield {F : Fence} (hF : Wd F) {n id : Nat} {a : Act} {w : World} (I : World → Prop) (ord : List Nat) (y : Nat) (rest : List (Nat × Bool)) (hm : P.follows .mixedOrders = true) (hd : noDefer ops = true) (hok : yldOk .any ops ord y rest = true) (hI : I w.drew)
    (h : ChainR P ops (fun a w => ∃ o, ops[y]? = some o ∧ StepR P ops o a w fun v w' => ChainR P ops (Q .normal) (fun _ => True) rest (a.put o.dst v) w') I (ord.map fun i => (i, false)) a w.drew) : (Code.region id ops true).wpIn F n P Q a w := by
  refine wpIn_region_any hm ?_
  unfold yldOk at hok
  simp only [Bool.and_eq_true, decide_eq_true_eq] at hok
  obtain ⟨⟨⟨k1, k2⟩, k3⟩, k4⟩ := hok
  have hns := fun (i : Nat) (o : Oper) cs b (hi : ops[i]? = some o) => Region.noSelect_spec k1 i o cs b hi
  have hnd := fun (i : Nat) (o : Oper) c (hi : ops[i]? = some o) => noDefer_spec hd hi c
  refine PlanY.any hF (alone_at k4) hnd ops.size (ord.length + (rest.length + 1)) _ a w.drew (DC.none _) k2 hI ?_
  generalize Array.replicate ops.size false = listed at k3
  clear k2 k4 hI
  generalize w.drew = wd at h
  induction ord generalizing listed a with
  | nil =>
    simp only [yldGo, Bool.and_eq_true, beq_iff_eq] at k3
    obtain ⟨o, ho, hs⟩ := h
    rw [List.length_nil, Nat.zero_add]
    refine .stop k3.1 fun fuel hfu hdc => StepR.wpOp hF ho (hs.mono fun v w' hK => ?_)
    exact PlanR.any hF hns hnd fuel rest.length _ _ w' hdc hfu trivial (ChainR.plan rest _ _ w' k3.2 hK)
  | cons i r ih =>
    obtain ⟨o, v, hi, hs, hr⟩ := h
    simp only [yldGo, Bool.and_eq_true, bne_iff_ne, ne_eq] at k3
    rw [List.length_cons, Nat.add_right_comm]
    exact .take i o v hi k3.1.1.1 k3.1.1.2 (by simpa using k3.1.2) hs (ih _ k3.2 hr)
end
end Go.Proofs.Ytlacjifnniahhaa

namespace Go.Proofs.Ytlacjifnniahhaa
open Go Go.RowKit Go.Shelf
attribute [local go_sem] Oper.semAt_some
set_option linter.unusedVariables false
set_option linter.unusedSimpArgs false

theorem feach_any (A : Option Addr) (n c : Nat) (w : World) : Calls Try.prog 48 #[.slice A n c] w fun e w' => e = .returned (.func (.func 75) #[] #[.pointer (some ⟨w.heap.size, 0, none⟩)]) ∧ w' = w.alloc (.cells #[.slice A n c] 39) := by
  go_enter Try.func48, Try.ntmps48
  go_wp2
  go_ret
  exact ⟨rfl, rfl⟩
theorem flines_any (A : Option Addr) (n c : Nat) (w : World) : Calls Try.prog 53 #[.slice A n c] w fun e w' => e = .returned (.func (.func 80) #[] #[.pointer (some ⟨w.heap.size, 0, none⟩)]) ∧ w' = w.alloc (.cells #[.slice A n c] 39) := by
  go_enter Try.func53, Try.ntmps53
  go_wp2
  go_ret
  exact ⟨rfl, rfl⟩
set_option maxRecDepth 100000 in
set_option maxHeartbeats 2000000 in
theorem each_stops (Bx nb B : Nat) (fp : List Nat) (A : Option Addr) (c : Nat) (Ls : List (List Dt)) (w0 : World) (hbx : w0.cell? ⟨Bx, 0, none⟩ = some (.slice A Ls.length c)) (hBx : Bx < nb) (hnb : nb ≤ w0.heap.size) (hR : OutF dtL w0 B A Ls) (hB : B ≤ nb) (hfp : ∀ b ∈ fp, B ≤ b ∧ b ≠ Bx) (hs : SmF Ls) :
    SeqC Fence.wide 2 Try.prog 75 #[.pointer (some ⟨Bx, 0, none⟩)] (fun x : Dt => #[.agg #[.int .i64 x.1, .int .i64 x.2]]) (fun pre x _ => pre ++ [x] <+: Ls.flatten) (KpX nb fp) (fun xs => xs = Ls.flatten) (fun pre => pre <+: Ls.flatten) w0 := by
  intro l J Jx W hW hJ hJx hY h0
  have hsw := hW.size
  have hcx := (hW.cell (p := ⟨Bx, 0, none⟩) (show Bx < w0.heap.size by omega)).trans hbx
  have HR := Lib.hid hR
  have hm := hs.1
  have HLL := Lib.hid (fun (L : List Dt) (hL : L ∈ Ls) => hs.len hL)
  have HW0 := Lib.hid (show ∀ wr2 : World, KpX nb fp W wr2 → ∀ b i, b < B → wr2.cell? ⟨b, i, none⟩ = w0.cell? ⟨b, i, none⟩ from fun wr2 hl b i hb => World.cell?_of_block (w' := wr2) (w := w0) (a := ⟨b, i, none⟩) ((hl.block b (by omega) (fun hm => by have := (hfp b hm).1; omega)).trans (hW.block b (by omega))))
  have HK := Lib.hid (show ∀ X Y : World, W.heap.size ≤ X.heap.size → Below X.heap.size X Y → KpX nb fp X Y from fun X Y h1 h2 => KpX.of (h2.mono (by omega)))
  obtain ⟨n, hnn⟩ : ∃ n, n = Ls.length := ⟨_, rfl⟩
  rw [← hnn] at hcx hm
  have HN := Lib.hid hnn
  clear hnn hbx hR hs hfp hW
  refine callsIn_of_wp Try.func75 rfl trivial ?_ rfl
  simp only [Try.ntmps75, List.size_toArray, List.length_cons, List.length_nil, Nat.reduceAdd, Nat.reduceSub, Array.replicate_succ, Array.replicate_zero, List.push_toArray, List.append_toArray, List.nil_append, List.cons_append]
  gi_wp2
  have hJ0 : J ((Ls.take 0).flatten) W := h0
  clear h0 hcx
  gi_loopw [9] (fun i wr => ∃ k : Nat, k ≤ n ∧ i = .int .i64 k ∧ J ((Ls.take k).flatten) wr ∧ KpX nb fp W wr) (fun i _ => n - (intOf i).toNat)
  case atStart => exact ⟨0, Nat.zero_le _, rfl, hJ0, KpX.refl _ _ _⟩
  case round =>
    obtain ⟨k, hk, rfl, hJk, hb⟩ := hrel
    have hsz := hb.size
    by_cases hlt : k < n
    · have d1 : decide ((k : Int) < (n : Int)) = true := by simp; omega
      obtain ⟨L, hL⟩ := at_someF (L := Ls) (k := k) (by rw [← HN.out]; exact hlt)
      obtain ⟨b, o, Ai, ci, hA, hbl, h3, hLi⟩ := HR.out.at' k L hL
      subst hA
      have g0 := (HW0.out wr hb b (o + k) hbl).trans h3
      have hll : L.length ≤ 100000 := HLL.out L (List.mem_of_getElem? hL)
      have HLI := Lib.hid (And.intro hL hLi)
      obtain ⟨m0, hm0⟩ : ∃ m0, m0 = L.length := ⟨_, rfl⟩
      rw [← hm0] at g0 hll
      have HM0 := Lib.hid hm0
      have HX := Lib.hid (by rw [take_snocF hL, List.flatten_append, List.take_length]; simp : (Ls.take (k + 1)).flatten = (Ls.take k).flatten ++ L.take L.length)
      clear h3 hL hLi hm0
      gi_wp2
      gi_loopw [15] (fun i wr => ∃ j : Nat, j ≤ m0 ∧ i = .int .i64 j ∧ J ((Ls.take k).flatten ++ L.take j) wr ∧ KpX nb fp W wr) (fun i _ => m0 - (intOf i).toNat)
      case atStart => exact ⟨0, Nat.zero_le _, rfl, by simpa using hJk, hb⟩
      case round =>
        clear hJk hb hsz g0 hJ0
        obtain ⟨j, hj, rfl, hJj, hb⟩ := hrel
        have hsz := hb.size
        by_cases hjm : j < m0
        · have d2 : decide ((j : Int) < (m0 : Int)) = true := by simp; omega
          obtain ⟨x, hx⟩ := at_someF (L := L) (k := j) (by rw [← HM0.out]; exact hjm)
          obtain ⟨fb, fo, hA, hfb, hfc⟩ := lists_flat dtLen (by omega) HLI.out.2 hx
          subst hA
          have hf0 := hfc 0 _ rfl
          have hf1 := hfc 1 _ rfl
          rw [Nat.add_zero] at hf0
          have q0 := (HW0.out wr hb fb _ hfb).trans hf0
          have q1 := (HW0.out wr hb fb _ hfb).trans hf1
          have hfl : fb < wr.heap.size := by omega
          have ba : Below wr.heap.size wr (wr.alloc (.cells #[.int .i64 x.1, .int .i64 x.2] 27)) := below_a1 _ _
          clear hf0 hf1 hfc
          have HP := Lib.hid (prefixF HLI.out.1 hx)
          obtain ⟨fn, tmps, assign, body, hy, hRd⟩ := hY _ x _ (hJ _ _ _ hJj ba) HP.out
          have HX2 := Lib.hid (show (Ls.take k).flatten ++ L.take (j + 1) = (Ls.take k).flatten ++ L.take j ++ [x] by rw [take_snocF hx, List.append_assoc])
          clear hx
          gi_wp2
          refine hRd.mono ?_
          rintro e V (⟨rfl, hJ3, lv⟩ | ⟨rfl, hJx3⟩)
          · gi_wp2
            go_roundw
            case rel => exact ⟨j + 1, by omega, by go_num, by rw [HX2.out]; exact hJ3, (hb.trans (HK.out _ _ hsz ba)).trans lv⟩
            case measure => simp [intOf]; omega
          · gi_wp2
            refine bodyPost_ret (results_none rfl _ _ _) rfl ?_
            exact ⟨⟨_, rfl⟩, .inr ⟨_, by first | exact HP.out | exact HP.out.1, hJx3⟩⟩
        · obtain rfl : j = m0 := by omega
          have d2 : decide ((j : Int) < (j : Int)) = false := by simp
          have HS := Lib.hid (show (Ls.take (k + 1)).flatten = (Ls.take k).flatten ++ L.take j by rw [HX.out, HM0.out])
          gi_wp2
          go_roundw
          case rel => exact ⟨k + 1, by omega, by go_num, by rw [HS.out]; exact hJj, hb⟩
          case measure => simp [intOf]; omega
    · have d1 : decide ((k : Int) < (n : Int)) = false := by simp; omega
      have HT := Lib.hid (show Ls.take k = Ls from List.take_of_length_le (by have := HN.out; omega))
      gi_wp2
      go_end0
      exact ⟨⟨_, rfl⟩, .inl ⟨_, rfl, by rw [HT.out] at hJk; exact hJk⟩⟩
set_option maxRecDepth 100000 in
set_option maxHeartbeats 2000000 in
theorem lines_stops (Bx nb B : Nat) (fp : List Nat) (A : Option Addr) (c : Nat) (Ls : List (List Dt)) (w0 : World) (hbx : w0.cell? ⟨Bx, 0, none⟩ = some (.slice A Ls.length c)) (hBx : Bx < nb) (hnb : nb ≤ w0.heap.size) (hR : OutF dtL w0 B A Ls) (hB : B ≤ nb) (hfp : ∀ b ∈ fp, B ≤ b ∧ b ≠ Bx) (hs : SmF Ls) :
    SeqC Fence.wide 2 Try.prog 80 #[.pointer (some ⟨Bx, 0, none⟩)] (fun x : Dt × Dt => #[.agg #[.int .i64 x.1.1, .int .i64 x.1.2], .agg #[.int .i64 x.2.1, .int .i64 x.2.2]]) (fun pre x _ => pre ++ [x] <+: lnA Ls) (KpX nb fp) (fun xs => xs = lnA Ls) (fun pre => pre <+: lnA Ls) w0 := by
  intro l J Jx W hW hJ hJx hY h0
  have hsw := hW.size
  have hcx := (hW.cell (p := ⟨Bx, 0, none⟩) (show Bx < w0.heap.size by omega)).trans hbx
  have HR := Lib.hid hR
  have hm := hs.1
  have HLL := Lib.hid (fun (L : List Dt) (hL : L ∈ Ls) => hs.len hL)
  have HW0 := Lib.hid (show ∀ wr2 : World, KpX nb fp W wr2 → ∀ b i, b < B → wr2.cell? ⟨b, i, none⟩ = w0.cell? ⟨b, i, none⟩ from fun wr2 hl b i hb => World.cell?_of_block (w' := wr2) (w := w0) (a := ⟨b, i, none⟩) ((hl.block b (by omega) (fun hm => by have := (hfp b hm).1; omega)).trans (hW.block b (by omega))))
  have HK := Lib.hid (show ∀ X Y : World, W.heap.size ≤ X.heap.size → Below X.heap.size X Y → KpX nb fp X Y from fun X Y h1 h2 => KpX.of (h2.mono (by omega)))
  obtain ⟨n, hnn⟩ : ∃ n, n = Ls.length := ⟨_, rfl⟩
  rw [← hnn] at hcx hm
  have HN := Lib.hid hnn
  clear hnn hbx hR hs hfp hW
  refine callsIn_of_wp Try.func80 rfl trivial ?_ rfl
  simp only [Try.ntmps80, List.size_toArray, List.length_cons, List.length_nil, Nat.reduceAdd, Nat.reduceSub, Array.replicate_succ, Array.replicate_zero, List.push_toArray, List.append_toArray, List.nil_append, List.cons_append]
  gi_wp2
  have hJ0 : J (lnA (Ls.take 0)) W := h0
  clear h0 hcx
  gi_loopw [9] (fun i wr => ∃ k : Nat, k ≤ n ∧ i = .int .i64 k ∧ J (lnA (Ls.take k)) wr ∧ KpX nb fp W wr) (fun i _ => n - (intOf i).toNat)
  case atStart => exact ⟨0, Nat.zero_le _, rfl, hJ0, KpX.refl _ _ _⟩
  case round =>
    obtain ⟨k, hk, rfl, hJk, hb⟩ := hrel
    have hsz := hb.size
    by_cases hlt : k < n
    · have d1 : decide ((k : Int) < (n : Int)) = true := by simp; omega
      obtain ⟨L, hL⟩ := at_someF (L := Ls) (k := k) (by rw [← HN.out]; exact hlt)
      obtain ⟨b, o, Ai, ci, hA, hbl, h3, hLi⟩ := HR.out.at' k L hL
      subst hA
      have g0 := (HW0.out wr hb b (o + k) hbl).trans h3
      have hll : L.length ≤ 100000 := HLL.out L (List.mem_of_getElem? hL)
      have HLI := Lib.hid (And.intro hL hLi)
      obtain ⟨m0, hm0⟩ : ∃ m0, m0 = L.length := ⟨_, rfl⟩
      rw [← hm0] at g0 hll
      have HM0 := Lib.hid hm0
      have HX := Lib.hid (by exact lnA_take hL : lnA (Ls.take (k + 1)) = lnA (Ls.take k) ++ lnD L (L.length))
      clear h3 hL hLi hm0
      gi_wp2
      gi_loopw [15] (fun i wr => ∃ j : Nat, j ≤ m0 ∧ i = .int .i64 j ∧ J (lnA (Ls.take k) ++ lnD L j) wr ∧ KpX nb fp W wr) (fun i _ => m0 - (intOf i).toNat)
      case atStart => exact ⟨0, Nat.zero_le _, rfl, by simpa [lnD] using hJk, hb⟩
      case round =>
        clear hJk hb hsz g0 hJ0
        obtain ⟨j, hj, rfl, hJj, hb⟩ := hrel
        have hsz := hb.size
        by_cases hjm : j < m0
        · have d2 : decide ((j : Int) < (m0 : Int)) = true := by simp; omega
          obtain ⟨x, hx⟩ := at_someF (L := L) (k := j) (by rw [← HM0.out]; exact hjm)
          obtain ⟨fb, fo, hA, hfb, hfc⟩ := lists_flat dtLen (by omega) HLI.out.2 hx
          subst hA
          have hf0 := hfc 0 _ rfl
          have hf1 := hfc 1 _ rfl
          rw [Nat.add_zero] at hf0
          have q0 := (HW0.out wr hb fb _ hfb).trans hf0
          have q1 := (HW0.out wr hb fb _ hfb).trans hf1
          have hfl : fb < wr.heap.size := by omega
          have ba : Below wr.heap.size wr (wr.alloc (.cells #[.int .i64 x.1, .int .i64 x.2] 27)) := below_a1 _ _
          clear hf0 hf1 hfc
          obtain ⟨nx, hnx⟩ : ∃ nx, nx = (j + 1) % m0 := ⟨_, rfl⟩
          have hnl : nx < m0 := by rw [hnx]; exact Nat.mod_lt _ (by omega)
          have hyx : L[nx]? = some (nxD L j) := by rw [hnx, HM0.out]; exact nxD_at (by rw [← HM0.out]; exact hjm)
          obtain ⟨fb2, fo2, hA2, hfb2, hfc2⟩ := lists_flat dtLen (by omega) HLI.out.2 hyx
          obtain ⟨rfl, rfl⟩ : fb = fb2 ∧ fo = fo2 := by simpa using hA2
          have hf0 := hfc2 0 _ rfl
          have hf1 := hfc2 1 _ rfl
          rw [Nat.add_zero] at hf0
          have y0 := (HW0.out wr hb fb _ hfb).trans hf0
          have y1 := (HW0.out wr hb fb _ hfb).trans hf1
          have hxg : L.getD j (0, 0) = x := by rw [List.getD_eq_getElem?_getD, hx]; rfl
          have HX2 := Lib.hid (show lnA (Ls.take k) ++ lnD L (j + 1) = lnA (Ls.take k) ++ lnD L j ++ [(x, nxD L j)] by rw [lnD_succ, hxg, List.append_assoc])
          have HP := Lib.hid (show lnA (Ls.take k) ++ lnD L j ++ [(x, nxD L j)] <+: lnA Ls by rw [← HX2.out]; exact lnA_pre HLI.out.1 (by rw [← HM0.out]; omega))
          have e1 : IntKind.i64.wrap ((j : Int) + 1) = (j : Int) + 1 := IntWalk.i64_in _ (by omega)
          have e2 : Int.tmod ((j : Int) + 1) (m0 : Int) = (nx : Int) := by rw [hnx]; exact (Int.ofNat_tmod (j + 1) m0).symm
          have e3 : IntKind.i64.wrap (nx : Int) = (nx : Int) := IntWalk.i64_in _ (by omega)
          have e4 : ¬ (m0 : Int) = 0 := by omega
          have e5 : ¬ m0 = 0 := by omega
          have e6 : ((m0 : Int) == 0) = false := by simp; omega
          have HE := Lib.hid (And.intro e1 (And.intro e2 (And.intro e3 (And.intro e4 (And.intro e5 (And.intro e6 hnl))))))
          obtain ⟨yy, hyy⟩ : ∃ yy, yy = nxD L j := ⟨_, rfl⟩
          rw [← hyy] at y0 y1 HX2 HP
          clear hf0 hf1 hfc2 hyx hA2 hxg hx e1 e2 e3 e4 e5 e6 hnx hnl hyy
          gi_wp2
          obtain ⟨wq, hwq⟩ : ∃ wq, wq = wr.alloc (.cells #[.int .i64 x.1, .int .i64 x.2] 27) := ⟨_, rfl⟩
          have KQ := Blk.new wr 27 #[.int .i64 x.1, .int .i64 x.2]
          rw [← hwq] at ba KQ ⊢
          obtain ⟨qb, hqb⟩ : ∃ qb, qb = wr.heap.size := ⟨_, rfl⟩
          rw [← hqb] at KQ ⊢
          have z0 := KQ.cell 0; have z1 := KQ.cell 1; have zl := KQ.lt; simp only [List.getElem?_toArray, List.getElem?_cons_succ, List.getElem?_cons_zero] at z0 z1
          have y0 := (ba.cell (p := ⟨fb, fo + nx * 2, none⟩) hfl).trans y0
          have y1 := (ba.cell (p := ⟨fb, fo + nx * 2 + 1, none⟩) hfl).trans y1
          have hfl2 : fb < wq.heap.size := Nat.lt_of_lt_of_le hfl ba.size
          have HD := Lib.hid (fun (V : World) (hV : Below wq.heap.size wq V) => And.intro ((hV.cell (p := ⟨qb, 0, none⟩) zl).trans z0) (And.intro ((hV.cell (p := ⟨qb, 1, none⟩) zl).trans z1) (And.intro ((hV.cell (p := ⟨fb, fo + nx * 2, none⟩) hfl2).trans y0) (And.intro ((hV.cell (p := ⟨fb, fo + nx * 2 + 1, none⟩) hfl2).trans y1) (And.intro (Nat.lt_of_lt_of_le zl hV.size) (Nat.lt_of_lt_of_le hfl2 hV.size))))))
          have hI : Below wq.heap.size wq wq.drew := (Below.refl _ _).drew
          have bd : Below wr.heap.size wr wq.drew := ba.drew
          obtain ⟨fn, tmps, assign, body, hy, hRd⟩ := hY _ (x, yy) wq.drew (hJ _ _ _ hJj bd) HP.out
          dsimp only at hy
          clear z0 z1 y0 y1 q0 q1 hwq hqb KQ hfl2 zl
          refine wpIn_region_yield Wd.wide (fun V => Below wq.heap.size wq V) [0, 1, 2, 3, 4, 5, 6, 7, 8, 9] 10 [(11, false)] (by kernel_rfl) (by kernel_rfl) (by kernel_rfl) hI ?_
          simp only [List.map_cons, List.map_nil]
          repeat (first
            | (refine ChainR.skip (o := ?_) ?_ ?_ ?_; rotate_left; (focus (first | (simp only [List.getElem?_toArray, List.getElem?_cons_succ, List.getElem?_cons_zero]; with_reducible rfl) | (simp only [List.getElem?_toArray, List.getElem?_cons_zero]; with_reducible rfl))); (focus rfl); simp only [Act.put, List.setIfInBounds_toArray, List.set_cons_zero, List.set_cons_succ])
            | (refine ChainR.val (o := ?_) (v := ?_) ?_ ?_ ?_ ?_ ?_; rotate_left 2; (focus (first | (simp only [List.getElem?_toArray, List.getElem?_cons_succ, List.getElem?_cons_zero]; with_reducible rfl) | (simp only [List.getElem?_toArray, List.getElem?_cons_zero]; with_reducible rfl))); (focus (intro _ _ h; cases h)); (focus rfl); (focus (intro w' hI; obtain ⟨z0, z1, y0, y1, zl, fl⟩ := HD.out _ hI; obtain ⟨e1, e2, e3, e4, e5, e6, hnl⟩ := HE.out; go_simp <;> with_reducible rfl)); simp only [Act.put, List.setIfInBounds_toArray, List.set_cons_zero, List.set_cons_succ]))
          refine ChainR.nil ⟨?_, ?_, StepR.yld (l := l) (f := fn) (tmps := tmps) (assign := assign) (body := body) (m := 2 - 1) ?_ ?_ ?_ ?_⟩
          rotate_left 1
          (focus (first | (simp only [List.getElem?_toArray, List.getElem?_cons_succ, List.getElem?_cons_zero]; with_reducible rfl) | (simp only [List.getElem?_toArray, List.getElem?_cons_zero]; with_reducible rfl)))
          (focus (intro _ h; cases h))
          (focus rfl)
          (focus (go_simp <;> exact hy))
          refine hRd.mono ?_
          rintro e V (⟨rfl, hJ3, lv⟩ | ⟨rfl, hJx3⟩)
          · have bV : KpX nb fp wr V := (HK.out _ _ hsz bd).trans lv
            refine ⟨_, rfl, ?_⟩
            simp only [Act.put, List.setIfInBounds_toArray, List.set_cons_zero, List.set_cons_succ]
            repeat (first
              | (refine ChainR.skip (o := ?_) ?_ ?_ ?_; rotate_left; (focus (first | (simp only [List.getElem?_toArray, List.getElem?_cons_succ, List.getElem?_cons_zero]; with_reducible rfl) | (simp only [List.getElem?_toArray, List.getElem?_cons_zero]; with_reducible rfl))); (focus rfl); simp only [Act.put, List.setIfInBounds_toArray, List.set_cons_zero, List.set_cons_succ])
              | (refine ChainR.val (o := ?_) (v := ?_) ?_ ?_ ?_ ?_ ?_; rotate_left 2; (focus (first | (simp only [List.getElem?_toArray, List.getElem?_cons_succ, List.getElem?_cons_zero]; with_reducible rfl) | (simp only [List.getElem?_toArray, List.getElem?_cons_zero]; with_reducible rfl))); (focus (intro _ _ h; cases h)); (focus rfl); (focus (intro w' hI; skip; go_simp <;> with_reducible rfl)); simp only [Act.put, List.setIfInBounds_toArray, List.set_cons_zero, List.set_cons_succ]))
            refine ChainR.nil ?_
            gi_wp2
            go_roundw
            case rel => exact ⟨j + 1, by omega, by go_num, by rw [HX2.out]; exact hJ3, hb.trans bV⟩
            case measure => simp [intOf]; omega
          · refine ⟨_, rfl, ?_⟩
            simp only [Act.put, List.setIfInBounds_toArray, List.set_cons_zero, List.set_cons_succ]
            repeat (first
              | (refine ChainR.skip (o := ?_) ?_ ?_ ?_; rotate_left; (focus (first | (simp only [List.getElem?_toArray, List.getElem?_cons_succ, List.getElem?_cons_zero]; with_reducible rfl) | (simp only [List.getElem?_toArray, List.getElem?_cons_zero]; with_reducible rfl))); (focus rfl); simp only [Act.put, List.setIfInBounds_toArray, List.set_cons_zero, List.set_cons_succ])
              | (refine ChainR.val (o := ?_) (v := ?_) ?_ ?_ ?_ ?_ ?_; rotate_left 2; (focus (first | (simp only [List.getElem?_toArray, List.getElem?_cons_succ, List.getElem?_cons_zero]; with_reducible rfl) | (simp only [List.getElem?_toArray, List.getElem?_cons_zero]; with_reducible rfl))); (focus (intro _ _ h; cases h)); (focus rfl); (focus (intro w' hI; skip; go_simp <;> with_reducible rfl)); simp only [Act.put, List.setIfInBounds_toArray, List.set_cons_zero, List.set_cons_succ]))
            refine ChainR.nil ?_
            gi_wp2
            refine bodyPost_ret (results_none rfl _ _ _) rfl ?_
            exact ⟨⟨_, rfl⟩, .inr ⟨_, HP.out, hJx3⟩⟩
        · obtain rfl : j = m0 := by omega
          have d2 : decide ((j : Int) < (j : Int)) = false := by simp
          have HS := Lib.hid (show lnA (Ls.take (k + 1)) = lnA (Ls.take k) ++ lnD L j by rw [HX.out, HM0.out])
          gi_wp2
          go_roundw
          case rel => exact ⟨k + 1, by omega, by go_num, by rw [HS.out]; exact hJj, hb⟩
          case measure => simp [intOf]; omega
    · have d1 : decide ((k : Int) < (n : Int)) = false := by simp; omega
      have HT := Lib.hid (show Ls.take k = Ls from List.take_of_length_le (by have := HN.out; omega))
      gi_wp2
      go_end0
      exact ⟨⟨_, rfl⟩, .inl ⟨_, rfl, by rw [HT.out] at hJk; exact hJk⟩⟩
end Go.Proofs.Ytlacjifnniahhaa

namespace Go.Proofs.Ytlacjifnniahhaa
open Go Go.RowKit
variable {F : Fence} {n : Nat} {P : Program}

theorem wpIn_rangeCA {α : Type} {g : Operand} {ps : Array Tmp} {assign body : Code} {Q : Exit → Act → World → Prop} {a : Act} {w : World}
    (hro : F.round = none) (h1 : 1 ≤ n) {gf : Nat} {lb : Array Value} (hg : a.eval g = .func (.func gf) #[] lb) (hFg : F.fn gf) (eg : ∀ args w, (callFunc gf args).run P w = .ok (.enter gf args) w)
    {encs : α → Array Value} {C : List α → α → World → Prop} {Kp : World → World → Prop} {S Sp : List α → Prop} {w0 : World} (hseq : SeqC F (n - 1) P gf lb encs C Kp S Sp w0)
    (hKt : ∀ {X Y Z : World}, Kp X Y → Kp Y Z → Kp X Z)
    (hKb : ∀ (W : World) (l : Nat) (o o' : Obj), w.heap.size ≤ l → W.heap[l]? = some o → o.isCells = false → o.isWalk = false → Kp W (W.putObj l o'))
    (hb0 : Below w0.heap.size w0 w) (hps : ∀ x, (encs x).size = ps.size) (hC : ∀ pre, OwnFrom w.heap.size (C pre))
    (I : List α → World → Prop) (Ix : Code → List α → World → Prop) (hI : OwnFrom w.heap.size I) (hIx : ∀ c, OwnFrom w.heap.size (Ix c)) (h0 : I [] w) (Ax : α → Act → World → Prop) (hAx : ∀ x a', OwnFrom w.heap.size (fun (_ : List α) W => Ax x a' W))
    (hassign : ∀ (l : Nat) (pre : List α) (x : α) (W : World) (K : Act → World → Prop), I pre W → C pre x W → (∀ a' W', Below W.heap.size W W' → Kp W W' → I pre W' → C pre x W' → Ax x a' W' → K a' W') →
      assign.wpIn (F.inRound l) (n - 1 - 1) P (Exit.then K (fun _ _ _ => False)) { tmps := (ps.zip (encs x)).foldl (fun t (p, v) => t.setIfInBounds p v) a.tmps, defers := [] } W)
    (hbody : ∀ (l : Nat) (pre : List α) (x : α) (a' : Act) (W : World), I pre W → C pre x W → Ax x a' W → body.wpIn (F.inRound l) (n - 1 - 1) P (outC Kp I Ix (pre ++ [x]) W) a' W)
    (hdone : ∀ (D : Nat) (xs : List α) (W : World), w.heap.size ≤ D → S xs → I xs W → W.heap[D]? = some (.deferred (some [])) →
      Q .normal { a with defers := { target := .collected D, args := #[] } :: a.defers } W)
    (hstop : ∀ (D : Nat) (c : Code) (pre : List α) (W : World), w.heap.size ≤ D → Sp pre → Ix c pre W → W.heap[D]? = some (.deferred (some [])) →
      c.wpIn F n P Q { a with defers := { target := .collected D, args := #[] } :: a.defers } W) :
    (Code.rangeFunc g ps assign body).wpIn F n P Q a w := by
  refine wpIn_rangeFunc fun fn hfn => ?_
  obtain ⟨r, hr⟩ : ∃ r : LoopState → Option Code → Loop, r = fun st pe => { state := st, pending := pe, fn, tmps := a.tmps, params := ps, assign, body, defers := w.heap.size } := ⟨_, rfl⟩
  have bk : Books w.heap.size (r .ready none) ((w.alloc (.deferred (some []))).alloc (.loop (r .ready none))) :=
    ⟨(Below.heap_alloc _ _ _ (by simp)).trans (World.alloc_heap_new w _), by
      have := World.alloc_heap_new (w.alloc (.deferred (some []))) (.loop (r .ready none)); rwa [World.size_alloc] at this⟩
  have ent := run_enterLoop_outer (P := P) (w := w) fn a.tmps ps assign body
  rw [show (Loop.mk .ready none fn a.tmps ps assign body w.heap.size) = r .ready none by rw [hr]] at ent
  have i0 : I [] ((w.alloc (.deferred (some []))).alloc (.loop (r .ready none))) := hI.alloc _ (hI.alloc _ h0)
  have b1 : Below w0.heap.size w0 ((w.alloc (.deferred (some []))).alloc (.loop (r .ready none))) :=
    (hb0.alloc hb0.size _).alloc (by have := hb0.size; simp; omega) _
  generalize (w.alloc (.deferred (some []))).alloc (.loop (r .ready none)) = W1 at *
  rw [hro]
  refine ⟨_, _, W1, { target := .fn (.func gf) lb, args := #[.func (.yield (w.heap.size + 1)) #[] #[]] }, W1, gf, #[.func (.yield (w.heap.size + 1)) #[] #[]] ++ lb, W1,
    ent, ?_, ?_, ?_, fun _ => h1, ?_⟩
  · simp only [resolve, hg]
    simp [go_sem]
  · intro f' hf'; simp [Target.leads] at hf'; subst hf'; exact hFg
  · simp [invoke, go_sem, eg]
  refine (hseq (w.heap.size + 1) (fun pre W => I pre W ∧ Books w.heap.size (r .ready none) W) (fun pre W => ∃ c, Ix c pre W ∧ Books w.heap.size (r .done (some c)) W) W1 b1
    (fun s W V h hb => ⟨stays_own hI s W V h.1 hb, h.2.below hb⟩)
    (fun s W V h hb => by obtain ⟨c, hc, hk⟩ := h; exact ⟨c, stays_own (hIx c) s W V hc hb, hk.below hb⟩)
    ?round ⟨i0, bk⟩).mono ?behind
  case round =>
    rintro pre x V ⟨hi, hk⟩ hc
    have y := run_yield (P := P) (args := encs x) hk.record (by rw [hr]; exact hps x)
    rw [hr] at y
    refine ⟨fn, _, assign, body, y, roundIn_of_wpIn hfn (hassign _ pre x V _ hi hc fun a' V1 hbl hkp hi1 hc1 hax => ?_)⟩
    have hk1 := hk.below hbl
    have bg := run_beginRound (P := P) hk1.record (by rw [hr])
    obtain ⟨rb, hrb⟩ : ∃ rb, rb = { r .ready none with state := .busy } := ⟨_, rfl⟩
    rw [← hrb] at bg
    have hkb := hk1.put rb
    have hl1 := hbl.size
    have kp1 : Kp V (V1.putObj (w.heap.size + 1) (.loop rb)) := hKt hkp (hKb _ _ _ _ (by omega) hk1.record rfl rfl)
    have fin : ∀ (jump : Option Code) (V' : World), Books w.heap.size rb V' →
        (Instr.endRound (w.heap.size + 1) jump).run P V' = .ok (.bool jump.isNone) (V'.putObj (w.heap.size + 1) (.loop (r (if jump.isNone then .ready else .done) jump))) := fun jump V' h => by
      rw [run_endRound (P := P) jump h.record, hrb, hr]
    refine ⟨_, bg, ?_⟩
    refine wpIn_mono (hbody _ pre x a' _ (OwnFrom.book hI hk1 hi1 rb) (OwnFrom.book (hC pre) hk1 hc1 rb) (OwnFrom.book (s := pre) (hAx x a') hk1 hax rb)) ?_
    rintro e a3 V' h
    cases e with
    | normal =>
      obtain ⟨h1, h2, h3⟩ := h
      have hk' := hkb.others h1
      exact ⟨_, _, fin none V' hk', .inl ⟨rfl, ⟨OwnFrom.book hI hk' h3 _, hk'.put _⟩, hKt (hKt kp1 h2) (hKb _ _ _ _ (by omega) hk'.record rfl rfl)⟩⟩
    | ret =>
      obtain ⟨h1, h3⟩ := h
      have hk' := hkb.others h1
      exact ⟨_, _, fin (some .ret) V' hk', .inr ⟨rfl, .ret, OwnFrom.book (hIx _) hk' h3 _, hk'.put _⟩⟩
    | exit id =>
      obtain ⟨h1, h3⟩ := h
      have hk' := hkb.others h1
      exact ⟨_, _, fin (some (.exit id)) V' hk', .inr ⟨rfl, .exit id, OwnFrom.book (hIx _) hk' h3 _, hk'.put _⟩⟩
    | goto t => exact h.elim
    | panic ch => exact h.elim
    | outgrown => exact h.elim
  case behind =>
    rintro e V ⟨⟨v, rfl⟩, (⟨xs, hS, hi, hk⟩ | ⟨pre, hSp, c, hi, hk⟩)⟩
    · have en := run_endLoop (P := P) hk.record (by rw [hr]; simp)
      exact ⟨_, _, en, by rw [show (r .ready none).pending = none by rw [hr]]; exact hdone _ xs _ (Nat.le_refl _) hS (OwnFrom.book hI hk hi _) (hk.put _).marks⟩
    · have en := run_endLoop (P := P) hk.record (by rw [hr]; simp)
      exact ⟨_, _, en, by rw [show (r .done (some c)).pending = some c by rw [hr]]; exact hstop _ c pre _ (Nat.le_refl _) hSp (OwnFrom.book (hIx c) hk hi _) (hk.put _).marks⟩
end Go.Proofs.Ytlacjifnniahhaa
