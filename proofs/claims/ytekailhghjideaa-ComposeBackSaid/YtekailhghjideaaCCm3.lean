/- Part 4 of the proof: Chain, Bytes2, Copy, Wr5, Conv, Met1. -/
import Derived.Deep.OwnRows
import Derived.Laws.CopyOwn
import Derived.Deep.RegionHeld3
import Derived.Outline
import Derived.Laws.IdiomStrings
import Derived.Laws.BytesArg
import Derived.Lib.Hide
import Derived.Shelf.Abstract
import Derived.Test.YtekailhghjideaaCCm2

namespace Go.Proofs.Ytekailhghjideaa
open Go Go.RowKit

section
variable {P : Program} {ops : Array Oper} {Q : Exit → Act → World → Prop} {md : Region.Mode} {I : World → Prop}

/-- Operation o, in every act that agrees on what it looks at, in every world that meets I: it yields v, and the world stays. -/
def StepI (P : Program) (ops : Array Oper) (I : World → Prop) (o : Oper) (v : Value) (a : Act) : Prop :=
  ∀ (a' : Act) (w : World), (∀ t ∈ o.looksAt ops, a'.tmps[t]? = a.tmps[t]?) → I w →
    (Region.wanted o (yielded ops a'.tmps) = false ∧ v = undef) ∨ (Region.wanted o (yielded ops a'.tmps) = true ∧ (execOp a'.eval o).run P w = .ok (.value v) w)

/-- Operation o at this act and world: it is wanted, and yields a value, by itself or by a call; K holds of it and of the world behind it. -/
def StepO (P : Program) (ops : Array Oper) (o : Oper) (a : Act) (w : World) (K : Value → World → Prop) : Prop :=
  Region.wanted o (yielded ops a.tmps) = true ∧ ((∃ v w', (execOp a.eval o).run P w = .ok (.value v) w' ∧ K v w') ∨ (∃ f args w1, (execOp a.eval o).run P w = .ok (.enter f args) w1 ∧ Calls P f args w1 fun e w' => ∃ v, e = .returned v ∧ K v w') ∨ (∃ w', (execOp a.eval o).run P w = .ok .skip w' ∧ K undef w'))

theorem StepO.mono {o : Oper} {a : Act} {w : World} {K K' : Value → World → Prop} (h : StepO P ops o a w K) (hK : ∀ v w', K v w' → K' v w') : StepO P ops o a w K' := by
  obtain ⟨hw, h | h | h⟩ := h
  · obtain ⟨v, w', h1, h2⟩ := h
    exact ⟨hw, .inl ⟨v, w', h1, hK _ _ h2⟩⟩
  · obtain ⟨f, args, w1, h1, h2⟩ := h
    exact ⟨hw, .inr (.inl ⟨f, args, w1, h1, h2.mono fun e w' ⟨v, h3, h4⟩ => ⟨v, h3, hK _ _ h4⟩⟩)⟩
  · obtain ⟨w', h1, h2⟩ := h
    exact ⟨hw, .inr (.inr ⟨w', h1, hK _ _ h2⟩)⟩
theorem StepO.move {o : Oper} (hns : ∀ cs b, o.op ≠ .select cs b) {a a' : Act} {w : World} {K : Value → World → Prop} (h : StepO P ops o a w K) (hag : ∀ t ∈ o.looksAt ops, a'.tmps[t]? = a.tmps[t]?) : StepO P ops o a' w K := by
  unfold StepO at *
  rw [wanted_agree o hag, exec_agree o hns hag]
  exact h
theorem StepO.wpOp {i : Nat} {o : Oper} (hi : ops[i]? = some o) {a : Act} {w : World} {K : Act → World → Prop} (h : StepO P ops o a w fun v w' => K (a.put o.dst v) w') : wpOp P ops Q i K a w := by
  obtain ⟨hw, h⟩ := h
  unfold Go.wpOp
  simp only [hi]
  rw [hw, if_pos rfl]
  refine .inl ?_
  unfold Oper.wp
  rcases h with ⟨v, w', h1, h2⟩ | ⟨f, args, w1, h1, h2⟩ | ⟨w', h1, h2⟩
  · rw [h1]; exact h2
  · rw [h1]
    refine h2.mono fun e w' ⟨v, h3, h4⟩ => ?_
    subst h3
    exact h4
  · rw [h1]; exact h2

/-- One order: what only reads may be taken as soon as it is ready; what changes the world, when nothing else is ready. -/
inductive PlanC (P : Program) (md : Region.Mode) (ops : Array Oper) (Q : Exit → Act → World → Prop) (I : World → Prop) (last : Nat) : Nat → Array Bool → Act → World → Prop
  | done {n : Nat} {listed : Array Bool} {a : Act} {w : World} (hr : Region.ready md ops listed = []) (h : Q .normal a w) : PlanC P md ops Q I last n listed a w
  | stop {n : Nat} {listed : Array Bool} {a : Act} {w : World} (hr : Region.ready md ops listed = [last]) (hf : Region.ready md ops (listed.setIfInBounds last true) = []) (h : wpOp P ops Q last (Q .normal) a w) : PlanC P md ops Q I last (n + 1) listed a w
  | take {n : Nat} {listed : Array Bool} {a : Act} {w : World} (i : Nat) (o : Oper) (v : Value) (hi : ops[i]? = some o) (hne : i ≠ last) (hf : Region.free md ops listed i = true) (hr : i ∈ Region.ready md ops listed)
      (hs : StepI P ops I o v a) (h : PlanC P md ops Q I last n (listed.setIfInBounds i true) (a.put o.dst v) w) : PlanC P md ops Q I last (n + 1) listed a w
  | step {n : Nat} {listed : Array Bool} {a : Act} {w : World} (i : Nat) (o : Oper) (hi : ops[i]? = some o) (hne : i ≠ last) (hr : Region.ready md ops listed = [i])
      (K : Value → World → Prop) (hs : StepO P ops o a w K) (hI : ∀ v w', K v w' → I w') (h : ∀ v w', K v w' → PlanC P md ops Q I last n (listed.setIfInBounds i true) (a.put o.dst v) w') : PlanC P md ops Q I last (n + 1) listed a w

theorem StepI.move {o : Oper} {v : Value} {a a1 : Act} (h : StepI P ops I o v a) (hag : ∀ t ∈ o.looksAt ops, a1.tmps[t]? = a.tmps[t]?) : StepI P ops I o v a1 :=
  fun a' w ha hI => h a' w (fun t ht => (ha t ht).trans (hag t ht)) hI

/-- Whatever may come up could have come up first. -/
theorem PlanC.first (hns : ∀ (i : Nat) (o : Oper) cs b, ops[i]? = some o → o.op ≠ .select cs b) {n last : Nat} {listed : Array Bool} {a : Act} {w : World} (h : PlanC P md ops Q I last n listed a w) : ∀ j, j ∈ Region.ready md ops listed → j ≠ last →
    ∃ m oj, n = m + 1 ∧ ops[j]? = some oj ∧ ((∃ u, StepI P ops I oj u a ∧ PlanC P md ops Q I last m (listed.setIfInBounds j true) (a.put oj.dst u) w) ∨
      (∃ K : Value → World → Prop, StepO P ops oj a w K ∧ (∀ v w', K v w' → I w') ∧ ∀ v w', K v w' → PlanC P md ops Q I last m (listed.setIfInBounds j true) (a.put oj.dst v) w')) := by
  induction h with
  | done hr h => intro j hj; rw [hr] at hj; cases hj
  | stop hr hf h => intro j hj hne; rw [hr] at hj; exact absurd (by simpa using hj) hne
  | step i o hi hne hr K hs hI h =>
    intro j hj _
    rw [hr] at hj
    obtain rfl : j = i := by simpa using hj
    exact ⟨_, o, rfl, hi, .inr ⟨K, hs, hI, h⟩⟩
  | @take n listed a w i o v hi hne hf hr hs h ih =>
    intro j hj hjl
    by_cases hji : j = i
    · subst hji; exact ⟨_, o, rfl, hi, .inl ⟨v, hs, h⟩⟩
    · obtain ⟨m, oj, rfl, hoj, hh⟩ := ih j (ready_mono hj hji) hjl
      obtain ⟨hjun, oj', hoj', hall⟩ := mem_ready.1 hj
      obtain rfl : oj' = oj := by rw [hoj] at hoj'; exact (Option.some.inj hoj').symm
      have hnot : ∀ e ∈ oj'.after, Region.binds md e = true → e.on ≠ i := fun e he hb heq => by
        have h1 := hall e he hb
        have h0 := (mem_ready.1 hr).1
        rw [heq] at h1
        rcases Nat.lt_or_ge i listed.size with h' | h'
        · simp [h'] at h0 h1; rw [h0] at h1; cases h1
        · simp [Array.getElem?_eq_none h'] at h1
      obtain ⟨h1, h2, h3⟩ := Oper.apart_spec (Region.free_spec hi hf j oj' hoj hji hjun hnot)
      refine ⟨m + 1, oj', rfl, hoj, ?_⟩
      have hst : ∀ u, StepI P ops I o v (a.put oj'.dst u) := fun u => hs.move (put_agree h3 a u)
      rcases hh with ⟨u, hsj, hp⟩ | ⟨K, hsj, hKI, hp⟩
      · refine .inl ⟨u, hsj.move fun t ht => (put_agree h1 a v t ht).symm, ?_⟩
        refine PlanC.take i o v hi hne (free_set hf) (ready_mono hr (Ne.symm hji)) (hst u) ?_
        rw [Array.setIfInBounds_comm _ _ hji, ← Act.put_comm a v u h2]
        exact hp
      · refine .inr ⟨K, hsj.move (hns j oj' · · hoj) fun t ht => (put_agree h1 a v t ht).symm, hKI, fun u w' hK => ?_⟩
        refine PlanC.take i o v hi hne (free_set hf) (ready_mono hr (Ne.symm hji)) (hst u) ?_
        rw [Array.setIfInBounds_comm _ _ hji, ← Act.put_comm a v u h2]
        exact hp u w' hK

theorem PlanC.any {last : Nat} (hL : Alone md ops last) (hns : ∀ (i : Nat) (o : Oper) cs b, ops[i]? = some o → o.op ≠ .select cs b) : ∀ (fuel n : Nat) (listed : Array Bool) (a : Act) (w : World), DC md ops listed → n ≤ fuel → I w → PlanC P md ops Q I last n listed a w → wpAny P md ops Q fuel listed a w
  | 0, n, listed, a, w, _, hn, hI, h => by
    cases h with
    | done hr h => exact ⟨hr, h⟩
    | stop => omega
    | take => omega
    | step => omega
  | fuel + 1, n, listed, a, w, hd, hn, hI, h => by
    refine ⟨fun hr => ?_, fun j hj => ?_⟩
    · cases h with
      | done _ h => exact h
      | stop hr' => rw [hr] at hr'; cases hr'
      | take i o v hi hne hf hr' => rw [hr] at hr'; cases hr'
      | step i o hi hne hr' => rw [hr] at hr'; cases hr'
    · by_cases hjl : j = last
      · subst hjl
        cases h with
        | done hr => rw [hr] at hj; cases hj
        | stop hr hf h => exact wpOp_mono (fun a' w' hq => wpAny_done hf hq fuel) h
        | take i o v hi hne hf hr' => exact absurd (hL listed hd hj i hr') hne
        | step i o hi hne hr' => exact absurd (hL listed hd hj i (by rw [hr']; simp)) hne
      · obtain ⟨m, oj, rfl, hoj, hh⟩ := h.first hns j hj hjl
        rcases hh with ⟨u, hsj, hp⟩ | ⟨K, hsj, hKI, hp⟩
        · have hrec := PlanC.any hL hns fuel m _ _ w (hd.set hj) (by omega) hI hp
          unfold wpOp
          simp only [hoj]
          rcases hsj a w (fun _ _ => rfl) hI with ⟨hw, rfl⟩ | ⟨hw, hrun⟩
          · rw [hw]; exact hrec
          · rw [hw, if_pos rfl]
            refine .inl ?_
            unfold Oper.wp
            rw [hrun]
            exact hrec
        · exact StepO.wpOp hoj (hsj.mono fun v w' hK => PlanC.any hL hns fuel m _ _ w' (hd.set hj) (by omega) (hKI v w' hK) (hp v w' hK))

/-- The order as a list: (operation, whether it changes the world). -/
def ChainL (P : Program) (ops : Array Oper) (E : Act → World → Prop) (I : World → Prop) : List (Nat × Bool) → Act → World → Prop
  | [], a, w => E a w
  | (i, false) :: r, a, w => ∃ o v, ops[i]? = some o ∧ StepI P ops I o v a ∧ ChainL P ops E I r (a.put o.dst v) w
  | (i, true) :: r, a, w => ∃ o, ops[i]? = some o ∧ StepO P ops o a w fun v w' => I w' ∧ ChainL P ops E I r (a.put o.dst v) w'

def chainGo (md : Region.Mode) (ops : Array Oper) (last : Nat) : List (Nat × Bool) → Array Bool → Bool
  | [], listed => if last < ops.size then (Region.ready md ops listed == [last]) && (Region.ready md ops (listed.setIfInBounds last true)).isEmpty else (Region.ready md ops listed).isEmpty
  | (i, false) :: r, listed => (i != last) && Region.free md ops listed i && (Region.ready md ops listed).contains i && chainGo md ops last r (listed.setIfInBounds i true)
  | (i, true) :: r, listed => (i != last) && (Region.ready md ops listed == [i]) && chainGo md ops last r (listed.setIfInBounds i true)
def chainOk (md : Region.Mode) (ops : Array Oper) (ord : List (Nat × Bool)) : Bool := Region.noSelect ops && decide (ord.length ≤ ops.size) && chainGo md ops ops.size ord (Array.replicate ops.size false)
def chainLastOk (md : Region.Mode) (ops : Array Oper) (ord : List (Nat × Bool)) : Bool := Region.noSelect ops && decide (ord.length + 1 ≤ ops.size) && chainGo md ops (ops.size - 1) ord (Array.replicate ops.size false) && lastOk md ops

theorem ChainL.plan {E : Act → World → Prop} {last k : Nat} (hk : last < ops.size → k = 1) (hE : ∀ a w, E a w → if last < ops.size then wpOp P ops Q last (Q .normal) a w else Q .normal a w) : ∀ (ord : List (Nat × Bool)) (listed : Array Bool) (a : Act) (w : World), chainGo md ops last ord listed = true → ChainL P ops E I ord a w → PlanC P md ops Q I last (ord.length + k) listed a w
  | [], listed, a, w, hc, h => by
    have h1 := hE _ _ h
    unfold chainGo at hc
    by_cases hl : last < ops.size
    · rw [if_pos hl] at hc h1
      simp only [Bool.and_eq_true, beq_iff_eq, List.isEmpty_iff] at hc
      obtain rfl := hk hl
      exact .stop hc.1 hc.2 h1
    · rw [if_neg hl] at hc h1
      exact .done (by simpa using hc) h1
  | (i, false) :: r, listed, a, w, hc, h => by
    obtain ⟨o, v, hi, hs, hr⟩ := h
    simp only [chainGo, Bool.and_eq_true, bne_iff_ne, ne_eq] at hc
    rw [List.length_cons, Nat.add_right_comm]
    exact .take i o v hi hc.1.1.1 hc.1.1.2 (by simpa using hc.1.2) hs (ChainL.plan hk hE r _ _ w hc.2 hr)
  | (i, true) :: r, listed, a, w, hc, h => by
    obtain ⟨o, hi, hs⟩ := h
    simp only [chainGo, Bool.and_eq_true, beq_iff_eq, bne_iff_ne, ne_eq] at hc
    rw [List.length_cons, Nat.add_right_comm]
    exact .step i o hi hc.1.1 hc.1.2 _ hs (fun v w' hK => hK.1) fun v w' hK => ChainL.plan hk hE r _ _ w' hc.2 hK.2

/-- THE LAW. -/
theorem wp_region_chain {id : Nat} {a : Act} {w : World} (I : World → Prop) (ord : List (Nat × Bool)) (hm : P.follows .mixedOrders = true) (hok : chainOk .any ops ord = true) (hI : I w.drew)
    (h : ChainL P ops (Q .normal) I ord a w.drew) : (Code.region id ops true).wp P Q a w := by
  refine wp_region_any hm ?_
  unfold chainOk at hok
  simp only [Bool.and_eq_true, decide_eq_true_eq] at hok
  exact PlanC.any alone_none (fun i o cs b hi => Region.noSelect_spec hok.1.1 i o cs b hi) ops.size (ord.length + 0) _ a w.drew (DC.none _) (by omega) hI
    (ChainL.plan (fun h => absurd h (Nat.lt_irrefl _)) (fun a w h => by rw [if_neg (Nat.lt_irrefl _)]; exact h) ord _ a _ hok.2 h)

/-- THE SAME where the last operation of the text waits for all others: I is not asked behind it. -/
theorem wp_region_chain_last {id : Nat} {a : Act} {w : World} (I : World → Prop) (ord : List (Nat × Bool)) (l : List Oper) (o : Oper) (hl0 : splitLast ops.toList = some (l, o)) (hg : o.guard = none) (hm : P.follows .mixedOrders = true) (hok : chainLastOk .any ops ord = true) (hI : I w.drew)
    (h : ChainL P ops (fun a w => o.wp P a w (Q .normal) Q) I ord a w.drew) : (Code.region id ops true).wp P Q a w := by
  refine wp_region_any hm ?_
  unfold chainLastOk at hok
  simp only [Bool.and_eq_true, decide_eq_true_eq] at hok
  have hlt : ops.size - 1 < ops.size := by omega
  have hl := splitLast_eq hl0
  have hn : ops.size = l.length + 1 := by
    have := congrArg List.length hl
    simpa using this
  have ho : ops[ops.size - 1]? = some o := by
    have : ops.toList[ops.size - 1]? = some o := by rw [hl, show ops.size - 1 = l.length by omega]; simp
    simpa using this
  have hw : ∀ y, Region.wanted o y = true := fun y => by unfold Region.wanted; rw [hg]
  exact PlanC.any (alone_last hok.2) (fun i o cs b hi => Region.noSelect_spec hok.1.1.1 i o cs b hi) ops.size (ord.length + 1) _ a w.drew (DC.none _) (by omega) hI
    (ChainL.plan (fun _ => rfl) (fun a w h => by rw [if_pos hlt]; unfold wpOp; simp only [ho]; rw [hw, if_pos rfl]; exact .inl h) ord _ a _ hok.1.2 h)

variable {E : Act → World → Prop} {i : Nat} {r : List (Nat × Bool)} {o : Oper} {a : Act} {w : World}
theorem ChainL.val {v : Value} (hi : ops[i]? = some o) (hns : ∀ cs b, o.op ≠ .select cs b) (hw : Region.wanted o (yielded ops a.tmps) = true) (h : ∀ w, I w → (execOp a.eval o).run P w = .ok (.value v) w)
    (hr : ChainL P ops E I r (a.put o.dst v) w) : ChainL P ops E I ((i, false) :: r) a w :=
  ⟨o, v, hi, fun a' w' hag hI => .inr ⟨by rw [wanted_agree o hag]; exact hw, by rw [exec_agree o hns hag]; exact h w' hI⟩, hr⟩
theorem ChainL.skip (hi : ops[i]? = some o) (hw : Region.wanted o (yielded ops a.tmps) = false) (hr : ChainL P ops E I r (a.put o.dst undef) w) : ChainL P ops E I ((i, false) :: r) a w :=
  ⟨o, undef, hi, fun a' w' hag hI => .inl ⟨by rw [wanted_agree o hag]; exact hw, rfl⟩, hr⟩
theorem ChainL.does {v : Value} {w1 : World} (hi : ops[i]? = some o) (hw : Region.wanted o (yielded ops a.tmps) = true) (h : (execOp a.eval o).run P w = .ok (.value v) w1) (hI : I w1)
    (hr : ChainL P ops E I r (a.put o.dst v) w1) : ChainL P ops E I ((i, true) :: r) a w :=
  ⟨o, hi, hw, .inl ⟨v, w1, h, hI, hr⟩⟩
theorem ChainL.call {f : FuncId} {args : Array Value} (hi : ops[i]? = some o) (hw : Region.wanted o (yielded ops a.tmps) = true) (he : (execOp a.eval o).run P w = .ok (.enter f args) w)
    (h : Calls P f args w fun e w' => ∃ v, e = .returned v ∧ I w' ∧ ChainL P ops E I r (a.put o.dst v) w') : ChainL P ops E I ((i, true) :: r) a w :=
  ⟨o, hi, hw, .inr (.inl ⟨f, args, w, he, h⟩)⟩
theorem ChainL.append (hi : ops[i]? = some o) (hw : Region.wanted o (yielded ops a.tmps) = true) (s x : Operand) (t : TypeId)
    (ho : o.op = .call { callee := .builtin .append, args := #[s, x], argTypes := #[t, t] })
    (base : Nat) (e : TypeId) (info : TypeInfo) (z : Value) (size bytes : Nat) (ht : P.underlying t = some (.slice e)) (hi' : P.info? e = some info) (hz : info.zero = some z)
    (hsize : info.size = size) (hby : info.bytes = bytes) (hzs : z.cells.size = size) (hsz : 0 < size)
    (v : Value) (n : Nat) (xs : List Value) (hs : a.eval s = v) (hown : w.ownsRow base e size v n xs)
    (B : Nat) (A : Option Addr) (m c : Nat) (news : List Value) (hx : a.eval x = .slice A m c) (hr : Lists w B A news) (hl : news.length = m * size) (h1 : ∀ u ∈ news, u.oneCell' = true)
    (h63 : n + m ≤ maxLen) (hbytes : (n + m) * bytes ≤ 140737488355328) (hbase : base ≤ w.heap.size)
    (h : ∀ v' w', w'.ownsRow base e size v' (n + m) (xs ++ news) → w.grownBy w' v.ownBlock → (v'.ownBlock = v.ownBlock ∨ v'.ownBlock = some w.heap.size) → I w' ∧ ChainL P ops E I r (a.put o.dst v') w') : ChainL P ops E I ((i, true) :: r) a w := by
  obtain ⟨v', w', hrun, h2, h3, h4⟩ := run_append_src (P := P) w base t o.type e info z size bytes ht hi' hz hsize hby hzs hsz v n xs hown B A m c news hr hl h1 h63 hbytes hbase
  refine ⟨o, hi, hw, .inl ⟨v', w', ?_, h v' w' h2 h3 h4⟩⟩
  unfold execOp
  simp only [ho, resolve, invoke, builtin, Sem.run_bind, Sem.run_pure, Result.andThen_ok, List.map_toArray, List.map_cons, List.map_nil, hs, hx, hrun]
theorem ChainL.store {w1 : World} (hi : ops[i]? = some o) (hw : Region.wanted o (yielded ops a.tmps) = true) (h : (execOp a.eval o).run P w = .ok .skip w1) (hI : I w1)
    (hr : ChainL P ops E I r (a.put o.dst undef) w1) : ChainL P ops E I ((i, true) :: r) a w :=
  ⟨o, hi, hw, .inr (.inr ⟨w1, h, hI, hr⟩)⟩
theorem ChainL.nil (h : E a w) : ChainL P ops E I [] a w := h
end

end Go.Proofs.Ytekailhghjideaa

namespace Go.Proofs.Ytekailhghjideaa
open Go Go.RowKit

/-- What stands ahead of the data behind the last gap; where that data begins. -/
def preE (D : List Value) : Nat → List (Nat × Nat) → List Value
  | _, [] => []
  | i, (a, z) :: G => (D.drop i).take (a - i) ++ List.replicate z zero8 ++ preE D a G
def lastA : Nat → List (Nat × Nat) → Nat
  | i, [] => i
  | _, (a, _) :: G => lastA a G

theorem expand_pre (D : List Value) : ∀ (G : List (Nat × Nat)) (i : Nat), expand D i G = preE D i G ++ D.drop (lastA i G)
  | [], i => rfl
  | (a, z) :: G, i => by simp only [expand, preE, lastA, expand_pre D G a, List.append_assoc]
theorem preE_snoc (D : List Value) (a z : Nat) : ∀ (G : List (Nat × Nat)) (i : Nat), preE D i (G ++ [(a, z)]) = preE D i G ++ ((D.drop (lastA i G)).take (a - lastA i G) ++ List.replicate z zero8)
  | [], i => by simp [preE, lastA]
  | (b, y) :: G, i => by simp only [List.cons_append, preE, lastA, preE_snoc D a z G b, List.append_assoc]
theorem lastA_snoc (a z : Nat) : ∀ (G : List (Nat × Nat)) (i : Nat), lastA i (G ++ [(a, z)]) = a
  | [], i => rfl
  | (b, y) :: G, i => by simp only [List.cons_append, lastA, lastA_snoc a z G b]
theorem lastA_le : ∀ (G : List (Nat × Nat)) {i n : Nat}, GapsOk i G n → lastA i G ≤ n
  | [], _, _, h => h
  | (_, _) :: G, _, _, h => lastA_le G h.2.2
theorem gap_at : ∀ (G : List (Nat × Nat)) (i n k a z : Nat), GapsOk i G n → G[k]? = some (a, z) → lastA i (G.take k) ≤ a ∧ a ≤ n ∧ 1 ≤ z
  | [], _, _, k, _, _, _, h => by simp at h
  | (b, y) :: G, i, n, 0, a, z, hg, h => by
    simp only [List.getElem?_cons_zero, Option.some.injEq, Prod.mk.injEq] at h
    obtain ⟨rfl, rfl⟩ := h
    exact ⟨hg.1, hg.2.2.le, hg.2.1⟩
  | (b, y) :: G, i, n, k + 1, a, z, hg, h => by
    simp only [List.take_succ_cons, lastA]
    exact gap_at G b n k a z hg.2.2 (by simpa using h)
theorem take_snoc {G : List (Nat × Nat)} {k a z : Nat} (h : G[k]? = some (a, z)) : G.take (k + 1) = G.take k ++ [(a, z)] := by
  rw [List.take_add_one, h]; rfl
theorem pre_prefix (D : List Value) : ∀ (G : List (Nat × Nat)) (i k : Nat), (preE D i (G.take k)).length ≤ (preE D i G).length
  | [], i, k => by simp
  | (a, z) :: G, i, 0 => by simp [preE]
  | (a, z) :: G, i, k + 1 => by
    have := pre_prefix D G a k
    simp only [List.take_succ_cons, preE, List.length_append]
    omega
theorem pre_len_le (D : List Value) (G : List (Nat × Nat)) (k : Nat) : (preE D 0 (G.take k)).length ≤ (expand D 0 G).length := by
  rw [expand_pre, List.length_append]
  have := pre_prefix D G 0 k
  omega

/-- The row behind k gaps: n bytes in all. -/
def rowAt (D : List Value) (G : List (Nat × Nat)) (n k : Nat) : List Value := preE D 0 (G.take k) ++ List.replicate (n - (preE D 0 (G.take k)).length) zero8
theorem rowAt_len (D : List Value) (G : List (Nat × Nat)) (n k : Nat) (h : (preE D 0 (G.take k)).length ≤ n) : (rowAt D G n k).length = n := by
  unfold rowAt; rw [List.length_append, List.length_replicate]; omega
theorem splice_row (P cs : List Value) (n : Nat) (h : P.length + cs.length ≤ n) : splice (P ++ List.replicate (n - P.length) zero8) P.length cs = P ++ cs ++ List.replicate (n - (P ++ cs).length) zero8 := by
  unfold splice
  rw [List.take_left, List.drop_append, List.drop_eq_nil_of_le (by omega), List.nil_append, List.drop_replicate, List.append_assoc, List.length_append]
  congr 3
  omega
theorem row_next (D : List Value) (G : List (Nat × Nat)) (n k a z : Nat) (hg : G[k]? = some (a, z)) (hn : (preE D 0 (G.take (k + 1))).length ≤ n) :
    splice (rowAt D G n k) (preE D 0 (G.take k)).length ((D.drop (lastA 0 (G.take k))).take (a - lastA 0 (G.take k))) = rowAt D G n (k + 1) := by
  rw [take_snoc hg, preE_snoc] at hn
  unfold rowAt
  rw [splice_row _ _ _ (by simp only [List.length_append] at hn; omega), take_snoc hg, preE_snoc]
  simp only [List.append_assoc, List.length_append, List.length_replicate] at hn ⊢
  congr 2
  rw [List.replicate_append_replicate]
  congr 1
  omega
theorem row_last (D : List Value) (G : List (Nat × Nat)) : splice (rowAt D G (expand D 0 G).length G.length) (preE D 0 G).length (D.drop (lastA 0 G)) = expand D 0 G := by
  have hl := expand_pre D G 0
  unfold rowAt
  rw [List.take_length, splice_row _ _ _ (by rw [hl, List.length_append]; omega), ← hl]
  simp
theorem made_zeros (n : Nat) : madeCells #[.int .u8 0] n = (List.replicate n zero8).toArray := by
  unfold madeCells zero8
  apply Array.ext
  · simp
  · intro i h1 h2
    simp [Nat.mod_one]

end Go.Proofs.Ytekailhghjideaa

namespace Go.Proofs.Ytekailhghjideaa
open Go Go.RowKit

theorem only_setRow (w : World) (g : Nat) (cs : Array Value) : Only w (w.setRow g cs) [g] :=
  ⟨rfl, rfl, rfl, by simp [World.setRow], fun b _ hn => setRow_other w g b cs (fun e => hn (by simp [e]))⟩

section
variable {P : Program} {w : World}
theorem run_copy_only (dT sT ty elem : TypeId) (hu : P.underlying dT = some (.slice elem)) (hsz : (P.info? elem).map (·.size) = some 1)
    (dp sp : Option Addr) (dLen dCap sLen sCap : Nat) (g off : Nat) (cur : List Value) (t : TypeId) (hg : w.heap[g]? = some (.cells cur.toArray t (0, 0))) (cs : List Value) (hn : cs.length = Nat.min sLen dLen)
    (hpos : 0 < cs.length → dp = some ⟨g, off, none⟩ ∧ ∃ ad, sp = some ad ∧ ∀ (j : Nat) (v : Value), cs[j]? = some v → w.cell? (ad.add j) = some v)
    (hfit : off + cs.length ≤ cur.length) (h1 : ∀ v ∈ cs, v.oneCell' = true) :
    ∃ w', (Builtin.copy_ #[dT, sT] ty #[.slice dp dLen dCap, .slice sp sLen sCap]).run P w = .ok (goInt cs.length) w' ∧ w'.heap[g]? = some (.cells (splice cur off cs).toArray t (0, 0)) ∧ Only w w' [g] := by
  by_cases h0 : cs.length = 0
  · obtain rfl : cs = [] := List.eq_nil_of_length_eq_zero h0
    exact ⟨w, run_copy_none (P := P) w dT sT ty elem dp sp dLen dCap sLen sCap hu hsz (by simpa using hn.symm), by simpa [splice] using hg, Only.refl w _⟩
  · obtain ⟨rfl, ad, rfl, hsrc⟩ := hpos (by omega)
    refine ⟨_, run_copy_row (P := P) w dT sT ty elem g off dLen dCap ad sLen sCap cur.toArray t cs hu hsz hg hn hsrc (by simpa using hfit) h1, ?_, only_setRow w g _⟩
    rw [setRow_heap w g _ _ t _ hg]
    simp [splice]

theorem step_copy_only {ops : Array Oper} {o : Oper} {a : Act} {K : Act → World → Prop} {Q : Exit → Act → World → Prop} {E : Prop} (hgd : o.guard = none) (d s : Operand) (dT sT : TypeId)
    (ho : o.op = .call { callee := .builtin .copy, args := #[d, s], argTypes := #[dT, sT] }) (elem : TypeId) (hu : P.underlying dT = some (.slice elem)) (hsz : (P.info? elem).map (·.size) = some 1)
    (dp sp : Option Addr) (dLen dCap sLen sCap : Nat) (hd : a.eval d = .slice dp dLen dCap) (hs : a.eval s = .slice sp sLen sCap)
    (g off : Nat) (cur : List Value) (t : TypeId) (hg : w.heap[g]? = some (.cells cur.toArray t (0, 0))) (cs : List Value) (hn : cs.length = Nat.min sLen dLen)
    (hpos : 0 < cs.length → dp = some ⟨g, off, none⟩ ∧ ∃ ad, sp = some ad ∧ ∀ (j : Nat) (v : Value), cs[j]? = some v → w.cell? (ad.add j) = some v)
    (hfit : off + cs.length ≤ cur.length) (h1 : ∀ v ∈ cs, v.oneCell' = true)
    (h : ∀ w', Hid (w'.heap[g]? = some (.cells (splice cur off cs).toArray t (0, 0))) → Only w w' [g] → K (a.put o.dst (goInt cs.length)) w') :
    if Region.wanted o (yielded ops a.tmps) = true then Oper.wp P o a w K Q else E := by
  rw [if_pos (by simp [Region.wanted, hgd])]
  obtain ⟨w', hrun, h2, h3⟩ := run_copy_only (P := P) dT sT o.type elem hu hsz dp sp dLen dCap sLen sCap g off cur t hg cs hn hpos hfit h1
  unfold Oper.wp
  simp [execOp, ho, resolve, invoke, builtin, hd, hs, hrun, Result.andThen]
  exact h w' h2 h3
end

end Go.Proofs.Ytekailhghjideaa

namespace Go.Proofs.Ytekailhghjideaa
open Go Go.RowKit

theorem addr_add_add (a : Addr) (i j : Nat) : (a.add i).add j = a.add (i + j) := by
  unfold Addr.add
  by_cases hi : i = 0
  · subst hi; simp
  · by_cases hj : j = 0
    · subst hj; simp [hi]
    · simp [hi, hj, Nat.add_assoc]

theorem u8One : (Try.prog.info? 5).map (·.size) = some 1 := by kernel_rfl

theorem wdone_full (p R : Nat) (L : List Value) (fp : List Nat) (w : World) (hW : Wr w p R true L fp) :
    Calls Try.prog 32 #[.pointer (some ⟨p, 0, none⟩)] w fun e w' => e = .returned (.tuple #[.slice none 0 0, .int .i64 2]) ∧ Below w.heap.size w w' := by
  obtain ⟨D, G, dv, gv, hb, _⟩ := hW
  have F := hb.kb; simp only [KB, CellsAt, Nat.zero_add, Nat.reduceAdd, and_true] at F
  clear hb
  go_enter Try.func32, Try.ntmps32
  go_wp2
  go_ret2
  exact ⟨rfl, Below.refl _ _⟩

/-- What is answered: the bytes, in new memory. -/
def Gave (w : World) (L : List Value) (e : Ending) (w' : World) : Prop := ∃ A c, e = .returned (.tuple #[.slice A L.length c, .int .i64 0]) ∧ w'.ownsRow w.heap.size 5 1 (.slice A L.length c) L.length L ∧ Below w.heap.size w w'

set_option maxRecDepth 100000 in
set_option maxHeartbeats 4000000 in
theorem wdone_any (p R : Nat) (L : List Value) (fp : List Nat) (w : World) (hW : Wr w p R false L fp) (hR : R ≤ 2147483647) :
    Calls Try.prog 32 #[.pointer (some ⟨p, 0, none⟩)] w fun e w' => Gave w L e w' := by
  have C0 := fun w' (hb : Below w.heap.size w w') => wlen_any p R false L fp w' (hW.only (Only.of_below hb []) (fun _ _ h => (nomatch h))) (by omega)
  obtain ⟨D, G, dv, gv, hb, hD, hG, k1, k2, k3, k4, _⟩ := hW
  have hl := expand_len D G 0 k1
  have hN : L.length ≤ 2147483647 := by omega
  have hN1 : ¬ (2147483647 < (L.length : Int)) := by omega
  have hmk := run_make_row' (P := Try.prog) 22 5 (.int .u8 0) 1 Try.underlying22 u8Info rfl .i64 .i64 L.length (by omega) (by omega)
  have hmk : ∀ w : World, (Instr.makeSlice 22 (.int .i64 (L.length : Int)) (.int .i64 (L.length : Int))).run Try.prog w = .ok (.slice (some ⟨w.heap.size, 0, none⟩) L.length L.length) (w.alloc (.cells (List.replicate L.length zero8).toArray 5)) := fun w => by rw [hmk w, made_zeros]
  have hcnt := k1.count
  have hGn : G.length ≤ 2147483647 := by rw [k3] at hN; omega
  have hDn : D.length ≤ 2147483647 := by rw [k3] at hN; omega
  obtain ⟨A0, c0, rfl, lD, hc0⟩ := own_lists hD
  obtain ⟨Ag, cg, rfl, lG, _⟩ := own_lists hG
  have hcm : c0 ≤ maxLen := by
    rcases hD.2 with ⟨h, _⟩ | ⟨g, cap, cur, h, _, _, _, h7, _⟩
    · injection h with _ _ h; omega
    · injection h with _ _ h; omega
  unfold maxLen at hcm
  have H3 := Lib.hid k3
  have HK1 := Lib.hid k1
  have HLD := Lib.hid lD
  have HLG := Lib.hid lG
  have HK2 := Lib.hid k2
  have hN0 : (0 : Int) ≤ (L.length : Int) := by omega
  clear hl hcnt k3 k1 lD lG k2 hD hG
  have F := hb.kb; simp only [KB, CellsAt, Nat.zero_add, Nat.reduceAdd, and_true] at F
  obtain ⟨N, hNN⟩ : ∃ N, N = L.length := ⟨_, rfl⟩
  rw [← hNN] at C0 hN hN1 hmk hN0
  have HN := Lib.hid hNN
  clear hNN
  go_enter Try.func32, Try.ntmps32
  go_wp2_with (first | (go_at_call 60; ((with_reducible refine (C0 _ (Below.refl _ _)).mono ?_); rintro e w1 ⟨rfl, b1⟩; have F1 := (hb.below b1).kb; simp only [KB, CellsAt, Nat.zero_add, Nat.reduceAdd, and_true] at F1)) | (go_at_call 60; ((with_reducible refine (C0 _ b1).mono ?_); rintro e w2 ⟨rfl, b2⟩; have b2 := b1.trans (b2.mono b1.size); have F2 := (hb.below b2).kb; simp only [KB, CellsAt, Nat.zero_add, Nat.reduceAdd, and_true] at F2)))
  have hg0 : (w2.alloc (.cells (List.replicate N zero8).toArray 5)).heap[w2.heap.size]? = some (.cells (rowAt D G N 0).toArray 5 (0, 0)) := by
    rw [heap_alloc_new]
    rfl
  have HG0 := Lib.hid hg0
  have hgw := b2.size
  have bm : Below w.heap.size w (w2.alloc (.cells (List.replicate N zero8).toArray 5)) := b2.alloc b2.size _
  clear hg0 F F1
  generalize hgg : w2.heap.size = g at *
  clear hgg
  go_loopw [5, 6, 28] (fun fr to ix wr => ∃ k : Nat, k ≤ G.length ∧ ix = .int .i64 k ∧ ∃ f t : Nat, fr = .int .i64 f ∧ to = .int .i64 t ∧ Hid (f = lastA 0 (G.take k) ∧ t = (preE D 0 (G.take k)).length) ∧ Below w.heap.size w wr ∧ Hid (wr.heap[g]? = some (.cells (rowAt D G N k).toArray 5 (0, 0)))) (fun _ _ ix _ => G.length - (intOf ix).toNat)
  case atStart => exact ⟨0, Nat.zero_le _, rfl, 0, 0, rfl, rfl, Lib.hid ⟨rfl, rfl⟩, bm, HG0⟩
  case round =>
    obtain ⟨k, hk, rfl, f, t, rfl, rfl, HFT, hbw, HGW⟩ := hrel
    have F3 := (hb.below hbw).kb; simp only [KB, CellsAt, Nat.zero_add, Nat.reduceAdd, and_true] at F3
    clear F2 HG0
    by_cases hlt : k < G.length
    · obtain ⟨⟨a, z⟩, hgk⟩ : ∃ q, G[k]? = some q := ⟨G[k], List.getElem?_eq_getElem hlt⟩
      obtain ⟨bg, og, hAg, hbg, hcg⟩ := HLG.out.plain (by intro e; have := gapCells_len G; rw [e] at this; simp at this; omega)
      subst hAg
      have hga := gapCells_at G k a z hgk
      have ga := (hbw.cell (p := ⟨bg, og + k * 2, none⟩) hbg).trans (hcg (k * 2) _ hga.1)
      have gz := (hbw.cell (p := ⟨bg, og + (k * 2 + 1), none⟩) hbg).trans (hcg (k * 2 + 1) _ hga.2)
      rw [← Nat.add_assoc] at gz
      clear hga hcg
      obtain ⟨q1, q2, q3⟩ := gap_at G 0 D.length k a z HK1.out hgk
      have hpre := pre_len_le D G (k + 1)
      have hpl : (preE D 0 (G.take (k + 1))).length = t + ((a - f) + z) := by
        rw [take_snoc hgk, preE_snoc, HFT.out.1, HFT.out.2]
        simp only [List.length_append, List.length_replicate, List.length_take, List.length_drop]
        omega
      rw [hpl, ← H3.out, ← HN.out] at hpre
      rw [← HFT.out.1] at q1
      have HRN := Lib.hid (row_next D G N k a z hgk (by rw [hpl]; exact hpre))
      have HPL := Lib.hid hpl
      rw [← HFT.out.1, ← HFT.out.2] at HRN
      have hrl := rowAt_len D G N k (by rw [← HFT.out.2]; omega)
      clear hpl
      have hfa : (f : Int) ≤ (a : Int) := by omega
      have haD : (a : Int) ≤ (D.length : Int) := by omega
      have hDc : (D.length : Int) ≤ (c0 : Int) := by omega
      have htN : (t : Int) ≤ (N : Int) := by omega
      have hntN : ¬ N = t := by omega
      have hf0 : (0 : Int) ≤ (f : Int) := by omega
      have ha0 : (0 : Int) ≤ (a : Int) := by omega
      have hac : (a : Int) ≤ (c0 : Int) := by omega
      have hfc : (f : Int) ≤ (c0 : Int) := by omega
      have ht0 : (0 : Int) ≤ (t : Int) := by omega
      have hgb : g < wr.heap.size := (Array.getElem?_eq_some_iff.1 HGW.out).1
      have hcl : ((D.drop f).take (a - f)).length = a - f := by simp only [List.length_take, List.length_drop]; omega
      have hc1 : ∀ v ∈ (D.drop f).take (a - f), v.oneCell' = true := fun v hv => HK2.out.one v (List.mem_of_mem_drop (List.mem_of_mem_take hv))
      have hcc : ∀ (j : Nat) (v : Value), ((D.drop f).take (a - f))[j]? = some v → D[f + j]? = some v := fun j v hv => by
        have hj : j < a - f := by
          rcases Nat.lt_or_ge j (a - f) with h | h
          · exact h
          · rw [List.getElem?_eq_none (by omega)] at hv; cases hv
        simpa [hj] using hv
      have hcn : ((D.drop f).take (a - f)).length = Nat.min (a - f) (N - t) := by rw [hcl]; show _ = min _ _; omega
      have hfit : t + ((D.drop f).take (a - f)).length ≤ (rowAt D G N k).length := by rw [hcl, hrl]; omega
      have s1 : IntKind.i64.wrap (((a - f : Nat) : Int) + (z : Int)) = ((a - f : Nat) : Int) + (z : Int) := IntWalk.i64_in _ (by omega)
      have s2 : IntKind.i64.wrap ((t : Int) + (((a - f : Nat) : Int) + (z : Int))) = (t : Int) + (((a - f : Nat) : Int) + (z : Int)) := IntWalk.i64_in _ (by omega)
      have hgp : p ≠ g := fun e => by have := hb.lt; omega
      have hbox : Blk (wr.alloc (.cells #[.int .i64 (a : Nat), .int .i64 (z : Nat)] 94)).drew wr.heap.size 94 #[.int .i64 (a : Nat), .int .i64 (z : Nat)] := Blk.new wr _ _
      have bw1 : Below w.heap.size w (wr.alloc (.cells #[.int .i64 (a : Nat), .int .i64 (z : Nat)] 94)).drew := (hbw.alloc hbw.size _).drew
      have hbp := hb.below bw1
      have HG1 : (wr.alloc (.cells #[.int .i64 (a : Nat), .int .i64 (z : Nat)] 94)).drew.heap[g]? = some (.cells (rowAt D G N k).toArray 5 (0, 0)) := (Below.heap_alloc _ _ g hgb).trans HGW.out
      have HG1 := Lib.hid HG1
      have hnext : ∀ w5, Only (wr.alloc (.cells #[.int .i64 (a : Nat), .int .i64 (z : Nat)] 94)).drew w5 [g] → Below w.heap.size w w5 := fun w5 o5 => bw1.trans (o5.to_below bw1.size (fun b hm => by simp at hm; omega))
      have HNL := Lib.hid (p := a = lastA 0 (G.take (k + 1)) ∧ t + ((a - f) + z) = (preE D 0 (G.take (k + 1))).length) ⟨by rw [take_snoc hgk, lastA_snoc], HPL.out.symm⟩
      have hld : ∀ a0, A0 = some a0 → ∀ (j : Nat) (v : Value), ((D.drop f).take (a - f))[j]? = some v → (wr.alloc (.cells #[.int .i64 (a : Nat), .int .i64 (z : Nat)] 94)).drew.cell? ((a0.add f).add j) = some v := fun a0 h0 j v hv => by
        have h1 := HLD.out.cell a0 h0 (f + j) v (hcc j v hv)
        have h2 : D ≠ [] := by intro e; subst e; have := hcc j v hv; simp at this
        rw [addr_add_add]
        exact (bw1.cell (by rw [addr_add_block]; exact HLD.out.lt a0 h0 h2)).trans h1
      have hsome : 0 < ((D.drop f).take (a - f)).length → ∃ a0, A0 = some a0 := fun h => by
        cases hA : A0 with
        | some a0 => exact ⟨a0, rfl⟩
        | none =>
          have := HLD.out.nil hA
          subst this
          simp at h
      clear hcc
      generalize (D.drop f).take (a - f) = cs at *
      have HCF : ∀ (w5 : World), Only (wr.alloc (.cells #[.int .i64 (a : Nat), .int .i64 (z : Nat)] 94)).drew w5 [g] → KB w5 [(p, [.int .i64 (R : Nat), .bool false, .slice A0 D.length c0, .slice (some ⟨bg, og, none⟩) G.length cg, .int .i64 (gapSum G : Nat)])] ∧ KB w5 [(wr.heap.size, [.int .i64 (a : Nat), .int .i64 (z : Nat)])] := fun w5 o5 =>
        ⟨(hbp.only o5 (by simpa using hgp)).kb, (hbox.only o5 (by simp; omega)).kb⟩
      clear hfit hcn
      by_cases hcf : c0 = f
      · have HZ1 := Lib.hid (show cs.length = 0 by omega)
        have hz9 : cs = [] := List.eq_nil_of_length_eq_zero HZ1.out
        obtain rfl : a = f := by omega
        obtain rfl : a = c0 := by omega
        subst hz9
        have s3 : IntKind.i64.wrap (z : Int) = (z : Int) := IntWalk.i64_in _ (by omega)
        have s4 : IntKind.i64.wrap ((t : Int) + (z : Int)) = (t : Int) + (z : Int) := IntWalk.i64_in _ (by omega)
        clear s1 s2 hcl hld hsome hcf
        go_wp2
        go_region_held3 (fun w' => w'.cell? ⟨p, 2, none⟩ = some (.slice A0 D.length a) ∧ w'.cell? ⟨wr.heap.size, 0, none⟩ = some (.int .i64 (a : Nat)) ∧ w'.cell? ⟨wr.heap.size, 1, none⟩ = some (.int .i64 (z : Nat))) (first | (refine ⟨?_, ?_, ?_⟩ <;> go_simp)) (first | (refine step_copy_only rfl (.tmp 35) (.tmp 43) 22 22 rfl 5 Try.underlying22 u8One _ _ _ _ _ _ rfl rfl g t (rowAt D G N k) 5 HG1.out [] (by show 0 = min _ _; omega) (fun h => absurd h (by simp)) (by rw [hrl]; simp; omega) hc1 ?_; intro w5 HGW5 o5; have F5 := HCF w5 o5; simp only [KB, CellsAt, Nat.zero_add, Nat.reduceAdd, and_true] at F5))
        have bw5 := hnext _ o5
        clear HCF
        go_wp2
        go_roundw
        case rel => exact ⟨k + 1, by omega, by go_num, a, t + ((a - a) + z), rfl, by simp, HNL, bw5, by rw [← HRN.out]; exact HGW5⟩
        case measure => simp [intOf]; omega
      · go_wp2
        go_region_held3 (fun w' => w'.cell? ⟨p, 2, none⟩ = some (.slice A0 D.length c0) ∧ w'.cell? ⟨wr.heap.size, 0, none⟩ = some (.int .i64 (a : Nat)) ∧ w'.cell? ⟨wr.heap.size, 1, none⟩ = some (.int .i64 (z : Nat))) (first | (refine ⟨?_, ?_, ?_⟩ <;> go_simp)) (first | (refine step_copy_only rfl (.tmp 35) (.tmp 43) 22 22 rfl 5 Try.underlying22 u8One _ _ _ _ _ _ rfl rfl g t (rowAt D G N k) 5 HG1.out cs (hcl.trans (by show _ = min _ _; omega)) (fun h => ⟨rfl, by obtain ⟨a0, h0⟩ := hsome h; exact ⟨a0.add f, by rw [h0]; rfl, hld a0 h0⟩⟩) (by rw [hrl, hcl]; omega) hc1 ?_; intro w5 HGW5 o5; have F5 := HCF w5 o5; simp only [KB, CellsAt, Nat.zero_add, Nat.reduceAdd, and_true] at F5))
        have bw5 := hnext _ o5
        clear HCF
        go_wp2
        go_roundw
        case rel => exact ⟨k + 1, by omega, by go_num, a, t + ((a - f) + z), rfl, by go_num, HNL, bw5, by rw [← HRN.out]; exact HGW5⟩
        case measure => simp [intOf]; omega
    · obtain rfl : k = G.length := by omega
      have e1 : G.take G.length = G := List.take_length
      have hft := HFT.out
      rw [e1] at hft
      have hlen := expand_pre D G 0
      rw [← H3.out] at hlen
      have hfD := lastA_le G HK1.out
      have hNL := HN.out
      rw [hlen, List.length_append, List.length_drop, ← hft.1, ← hft.2] at hNL
      rw [← hft.1] at hfD
      have hrow := row_last D G
      rw [← H3.out, ← HN.out, ← hft.1, ← hft.2] at hrow
      have HROW := Lib.hid hrow
      have hrl := rowAt_len D G N G.length (by rw [e1, ← hft.2]; omega)
      have hfD0 : (f : Int) ≤ (D.length : Int) := by omega
      have hDc : (D.length : Int) ≤ (c0 : Int) := by omega
      have hfc : (f : Int) ≤ (c0 : Int) := by omega
      have htN : (t : Int) ≤ (N : Int) := by omega
      have hf0 : (0 : Int) ≤ (f : Int) := by omega
      have ht0 : (0 : Int) ≤ (t : Int) := by omega
      have hgb : g < wr.heap.size := (Array.getElem?_eq_some_iff.1 HGW.out).1
      have hgp : p ≠ g := fun e => by have := hb.lt; omega
      have HG1 : wr.drew.heap[g]? = some (.cells (rowAt D G N G.length).toArray 5 (0, 0)) := HGW.out
      have HG1 := Lib.hid HG1
      have hbp := hb.below hbw.drew
      have hc1 : ∀ v ∈ D.drop f, v.oneCell' = true := fun v hv => HK2.out.one v (List.mem_of_mem_drop hv)
      have hcl : (D.drop f).length = D.length - f := List.length_drop
      have hfin : ∀ w5, Hid (w5.heap[g]? = some (.cells (splice (rowAt D G N G.length) t (D.drop f)).toArray 5 (0, 0))) → Only wr.drew w5 [g] → Gave w L (.returned (.tuple #[.slice (some ⟨g, 0, none⟩) N N, .int .i64 0])) w5 := fun w5 H o5 => by
        have h1 := H.out
        rw [HROW.out] at h1
        have h2 := HN.out
        subst h2
        refine ⟨some ⟨g, 0, none⟩, L.length, rfl, ⟨by simp, .inr ⟨g, L.length, L.toArray, rfl, hgw, h1, Nat.le_refl _, by unfold maxLen; omega, by simp, by simp⟩⟩, hbw.drew.trans (o5.to_below hbw.size (fun b hm => by simp at hm; omega))⟩
      have hld : ∀ a0, A0 = some a0 → ∀ (j : Nat) (v : Value), (D.drop f)[j]? = some v → wr.drew.cell? ((a0.add f).add j) = some v := fun a0 h0 j v hv => by
        rw [List.getElem?_drop] at hv
        have h1 := HLD.out.cell a0 h0 (f + j) v hv
        have h2 : D ≠ [] := by intro e; subst e; simp at hv
        rw [addr_add_add]
        exact (hbw.drew.cell (by rw [addr_add_block]; exact HLD.out.lt a0 h0 h2)).trans h1
      have hsome : 0 < (D.drop f).length → ∃ a0, A0 = some a0 := fun h => by
        cases hA : A0 with
        | some a0 => exact ⟨a0, rfl⟩
        | none =>
          have := HLD.out.nil hA
          subst this
          simp at h
      have HFIN := Lib.hid hfin
      have HRL := Lib.hid hrl
      have HNL := Lib.hid hNL
      have HCL := Lib.hid hcl
      clear hfin hrow hlen hft HROW hrl hNL hcl e1
      generalize D.drop f = cs at *
      have HCF : ∀ (w5 : World), Only wr.drew w5 [g] → KB w5 [(p, [.int .i64 (R : Nat), .bool false, .slice A0 D.length c0, .slice Ag G.length cg, .int .i64 (gapSum G : Nat)])] := fun w5 o5 => (hbp.only o5 (by simpa using hgp)).kb
      by_cases hcf : c0 = f
      · have hcs : cs = [] := List.eq_nil_of_length_eq_zero (by have := HCL.out; omega)
        obtain rfl : c0 = f := hcf
        obtain rfl : t = N := by have := HNL.out; omega
        subst hcs
        clear hld hsome
        go_wp2
        go_region_held3 (fun w' => w'.cell? ⟨p, 2, none⟩ = some (.slice A0 D.length c0)) (first | go_simp) (first | (refine step_copy_only rfl (.tmp 54) (.tmp 60) 22 22 rfl 5 Try.underlying22 u8One _ _ _ _ _ _ rfl rfl g t (rowAt D G t G.length) 5 HG1.out [] (by show 0 = min _ _; omega) (fun h => absurd h (by simp)) (by rw [HRL.out]; simp) (fun v hv => (nomatch hv)) ?_; intro w5 HGW5 o5; have F5 := HCF w5 o5; simp only [KB, CellsAt, Nat.zero_add, Nat.reduceAdd, and_true] at F5))
        go_wp2
        go_ret2
        exact HFIN.out _ HGW5 o5
      · by_cases hNt : N = t
        · have hcs : cs = [] := List.eq_nil_of_length_eq_zero (by have := HCL.out; have := HNL.out; omega)
          obtain rfl : N = t := hNt
          subst hcs
          clear hld hsome
          go_wp2
          go_region_held3 (fun w' => w'.cell? ⟨p, 2, none⟩ = some (.slice A0 D.length c0)) (first | go_simp) (first | (refine step_copy_only rfl (.tmp 54) (.tmp 60) 22 22 rfl 5 Try.underlying22 u8One _ _ _ _ _ _ rfl rfl g N (rowAt D G N G.length) 5 HG1.out [] (by show 0 = min _ _; omega) (fun h => absurd h (by simp)) (by rw [HRL.out]; simp) (fun v hv => (nomatch hv)) ?_; intro w5 HGW5 o5; have F5 := HCF w5 o5; simp only [KB, CellsAt, Nat.zero_add, Nat.reduceAdd, and_true] at F5))
          go_wp2
          go_ret2
          exact HFIN.out _ HGW5 o5
        · go_wp2
          go_region_held3 (fun w' => w'.cell? ⟨p, 2, none⟩ = some (.slice A0 D.length c0)) (first | go_simp) (first | (refine step_copy_only rfl (.tmp 54) (.tmp 60) 22 22 rfl 5 Try.underlying22 u8One _ _ _ _ _ _ rfl rfl g t (rowAt D G N G.length) 5 HG1.out cs (HCL.out.trans (by have := HNL.out; show _ = min _ _; omega)) (fun h => ⟨rfl, by obtain ⟨a0, h0⟩ := hsome h; exact ⟨a0.add f, by rw [h0]; rfl, hld a0 h0⟩⟩) (by rw [HRL.out, HCL.out]; have := HNL.out; omega) hc1 ?_; intro w5 HGW5 o5; have F5 := HCF w5 o5; simp only [KB, CellsAt, Nat.zero_add, Nat.reduceAdd, and_true] at F5))
          go_wp2
          go_ret2
          exact HFIN.out _ HGW5 o5

end Go.Proofs.Ytekailhghjideaa

namespace Go.Proofs.Ytekailhghjideaa
open Go Go.RowKit

/-- A cell of a byte, as a byte. -/
def toU8 : Value → UInt8
  | .int _ n => UInt8.ofNat n.toNat
  | _ => 0
set_option maxRecDepth 100000 in
/-- string(b) -/
theorem conv_lists {w : World} {B n c : Nat} {A : Option Addr} {E : List Value} (hl : Lists w B A E) (hn : E.length = n) (h8 : Bytes8 E) :
    ∀ dst, Try.prog.underlying dst = some .string → (convert 22 dst (.slice A n c)).run Try.prog w = .ok (.string ⟨(E.map toU8).toArray⟩) w := by
  intro dst hd
  cases A with
  | none =>
    rw [hl.nil rfl]
    exact run_convert_bytes_nil w 22 5 Try.underlying22 Try.underlying5 n c dst hd
  | some a =>
    have := run_convert_bytes_back (P := Try.prog) w 22 dst 5 a c (E.map toU8) Try.underlying22 Try.underlying5 hd (fun j hj => by
      rw [List.length_map] at hj
      obtain ⟨x, hx, he⟩ := h8 E[j] (List.getElem_mem hj)
      rw [hl.cell a rfl j E[j] (List.getElem?_eq_getElem hj)]
      simp only [List.getElem_map, he, toU8]
      congr 2
      rw [Int.toNat_natCast, UInt8.toNat_ofNat']
      congr 1
      omega)
    rw [List.length_map, hn] at this
    exact this

end Go.Proofs.Ytekailhghjideaa

namespace Go.Proofs.Ytekailhghjideaa
open Go Go.RowKit

/-- Is x from a to b? -/
def inB (a b x : Int) : Bool := decide (a ≤ x) && decide (x ≤ b)
theorem inB_yes {a b x : Int} (h1 : a ≤ x) (h2 : x ≤ b) : inB a b x = true := by simp [inB, h1, h2]
theorem inB_true {a b x : Int} (h : inB a b x = true) : a ≤ x ∧ x ≤ b := by simpa [inB] using h
theorem inB_false {a b x : Int} (h : inB a b x = false) : x < a ∨ b < x := by
  by_cases h1 : a ≤ x <;> by_cases h2 : x ≤ b
  · rw [inB_yes h1 h2] at h; cases h
  all_goals omega

/-- What IndexFunc answers of a list in which a predicate holds of one, or of none. -/
def Found {α : Type} (w : World) (L : List α) (p : α → Bool) (e : Ending) (w' : World) : Prop := ∃ r : Int, e = .returned (.int .i64 r) ∧ decide (0 ≤ r) = L.any p ∧ Below w.heap.size w w'
theorem any_snoc {α : Type} {L : List α} {p : α → Bool} {k : Nat} {x : α} (hx : L[k]? = some x) (h : (L.take k).any p = false) (ht : p x = false) : (L.take (k + 1)).any p = false := by
  rw [List.take_add_one, hx]
  simp only [Option.toList_some, List.any_append, h, List.any_cons, ht, List.any_nil, Bool.or_self]
theorem any_yes {α : Type} {L : List α} {p : α → Bool} {k : Nat} {x : α} (hx : L[k]? = some x) (ht : p x = true) : L.any p = true := by
  rw [List.any_eq_true]
  exact ⟨x, List.mem_of_getElem? hx, ht⟩

set_option maxRecDepth 100000 in
theorem findInt_any (g : FuncId) (lb : Array Value) (p : Int → Bool) (B : Nat) (A : Option Addr) (c : Nat) (L : List Int) (w : World) (hB : B ≤ w.heap.size) (hL : Lists w B A (intCells L)) (hn : L.length ≤ 1099511627776)
    (eg : ∀ args w, (callFunc g args).run Try.prog w = .ok (.enter g args) w)
    (hp : ∀ (W : World) (x : Int), x ∈ L → Below w.heap.size w W → Calls Try.prog g (#[.int .i64 x] ++ lb) W fun e w' => e = .returned (.bool (p x)) ∧ Below W.heap.size W w') :
    Calls Try.prog 75 #[.slice A L.length c, .func (.func g) #[] lb] w fun e w' => Found w L p e w' := by
  have HL := Lib.hid hL
  have HP := Lib.hid hp
  clear hL hp
  obtain ⟨n, hnn⟩ : ∃ n, n = L.length := ⟨_, rfl⟩
  rw [← hnn] at hn ⊢
  have HN := Lib.hid hnn
  clear hnn
  go_enter Try.func75, Try.ntmps75
  go_wp2
  go_loopw [8] (fun i wr => ∃ k : Nat, k ≤ n ∧ i = .int .i64 k ∧ Hid ((L.take k).any p = false) ∧ Below w.heap.size w wr) (fun i _ => n - (intOf i).toNat)
  case atStart => exact ⟨0, Nat.zero_le _, rfl, Lib.hid rfl, Below.refl _ _⟩
  case round =>
    obtain ⟨k, hk, rfl, HK, hb⟩ := hrel
    by_cases hlt : k < n
    · have d1 : decide ((k : Int) < (n : Int)) = true := by simp; omega
      obtain ⟨x, hx⟩ : ∃ x, L[k]? = some x := ⟨L[k]'(by rw [← HN.out]; exact hlt), List.getElem?_eq_getElem _⟩
      have hx' : (intCells L)[k]? = some (.int .i64 x) := by unfold intCells; rw [List.getElem?_map, hx]; rfl
      obtain ⟨b, o, hA, hbl, hcl⟩ := HL.out.plain (by intro e; rw [e] at hx'; simp at hx')
      subst hA
      have g0 := (hb.cell (p := ⟨b, o + k, none⟩) (Nat.lt_of_lt_of_le hbl hB)).trans (hcl k _ hx')
      have C := HP.out wr x (List.mem_of_getElem? hx) hb
      have HX := Lib.hid hx
      clear hcl hx hx'
      cases ht : p x
      · rw [ht] at C
        have HT := Lib.hid (any_snoc HX.out HK.out ht)
        clear ht
        go_wp2_with (go_at_fn g; ((with_reducible refine (C).mono ?_); rintro e w1 ⟨rfl, b1⟩))
        go_roundw
        case rel => exact ⟨k + 1, by omega, by go_num, HT, hb.trans (b1.mono hb.size)⟩
        case measure => simp [intOf]; omega
      · rw [ht] at C
        have HT := Lib.hid (any_yes (L := L) (p := p) HX.out ht)
        clear ht
        go_wp2_with (go_at_fn g; ((with_reducible refine (C).mono ?_); rintro e w1 ⟨rfl, b1⟩))
        go_ret
        exact ⟨(k : Int), rfl, by rw [HT.out]; simp, hb.trans (b1.mono hb.size)⟩
    · have d1 : decide ((k : Int) < (n : Int)) = false := by simp; omega
      have HT := Lib.hid (show L.any p = false by have := HK.out; rwa [List.take_of_length_le (by have := HN.out; omega)] at this)
      go_wp2
      go_ret
      exact ⟨-1, rfl, by rw [HT.out]; rfl, hb⟩

theorem hasInt_any (g : FuncId) (lb : Array Value) (p : Int → Bool) (B : Nat) (A : Option Addr) (c : Nat) (L : List Int) (w : World) (hB : B ≤ w.heap.size) (hL : Lists w B A (intCells L)) (hn : L.length ≤ 1099511627776)
    (eg : ∀ args w, (callFunc g args).run Try.prog w = .ok (.enter g args) w)
    (hp : ∀ (W : World) (x : Int), x ∈ L → Below w.heap.size w W → Calls Try.prog g (#[.int .i64 x] ++ lb) W fun e w' => e = .returned (.bool (p x)) ∧ Below W.heap.size W w') :
    Calls Try.prog 62 #[.slice A L.length c, .func (.func g) #[] lb] w fun e w' => e = .returned (.bool (L.any p)) ∧ Below w.heap.size w w' := by
  have C := findInt_any g lb p B A c L w hB hL hn eg hp
  clear hL hp eg
  go_enter Try.func62, Try.ntmps62
  go_wp2_with (first | (go_at_call 75; ((with_reducible refine (C).mono ?_); rintro e w1 ⟨r, rfl, hr, b⟩)))
  go_ret
  refine ⟨?_, b⟩
  rw [← hr]
  rfl

end Go.Proofs.Ytekailhghjideaa
