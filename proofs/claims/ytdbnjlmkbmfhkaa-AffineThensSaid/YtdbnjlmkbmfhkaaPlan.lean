/- A region whose order is open, and whose operations all keep one condition S on the world and each yield one value whatever the order: it may be walked in the order of its text. -/
import Derived.WalkKit
namespace Go.Proofs.Ytdbnjlmkbmfhkaa
open Go

section
variable {P : Program} {ops : Array Oper} {Q : Exit → Act → World → Prop} {md : Region.Mode} {S : World → Prop}

/-- No way out but the normal one. -/
def NoWay : Exit → Act → World → Prop := fun _ _ _ => False

/-- Operation i, in every act that agrees on what it looks at, in every world that meets S: it yields v, and S holds behind it. -/
def StepC (P : Program) (ops : Array Oper) (S : World → Prop) (i : Nat) (o : Oper) (v : Value) (a : Act) : Prop :=
  ∀ a' w, (∀ t ∈ o.looksAt ops, a'.tmps[t]? = a.tmps[t]?) → S w → wpOp P ops NoWay i (fun b w' => S w' ∧ b = a'.put o.dst v) a' w

theorem exec_agree (o : Oper) (hs : ∀ cs b, o.op ≠ .select cs b) {a a' : Act} (h : ∀ t ∈ o.looksAt ops, a'.tmps[t]? = a.tmps[t]?) : execOp a'.eval o = execOp a.eval o :=
  execOp_congr o hs fun x hx => by
    cases x with
    | tmp t =>
      have := h t (List.mem_append_left _ (List.mem_filterMap.2 ⟨.tmp t, by simpa using hx, rfl⟩))
      simp [Act.eval, this]
    | _ => rfl

theorem wanted_agree (o : Oper) {a a' : Act} (h : ∀ t ∈ o.looksAt ops, a'.tmps[t]? = a.tmps[t]?) : Region.wanted o (yielded ops a'.tmps) = Region.wanted o (yielded ops a.tmps) := by
  unfold Region.wanted
  cases hg : o.guard with
  | none => rfl
  | some gw =>
    obtain ⟨g, want⟩ := gw
    have hy : yielded ops a'.tmps g = yielded ops a.tmps g := by
      unfold yielded
      cases ht : (ops[g]?).bind (·.dst) with
      | none => rfl
      | some t => simp [h t (by simp [Oper.looksAt, hg, ht])]
    simp only [hy]

/-- The walk in one order; it serves for all. -/
inductive Plan (P : Program) (md : Region.Mode) (ops : Array Oper) (Q : Exit → Act → World → Prop) (S : World → Prop) : Nat → Array Bool → Act → Prop
  | done {n : Nat} {listed : Array Bool} {a : Act} (hr : Region.ready md ops listed = []) (h : ∀ w, S w → Q .normal a w) : Plan P md ops Q S n listed a
  | take {n : Nat} {listed : Array Bool} {a : Act} (i : Nat) (o : Oper) (v : Value) (hi : ops[i]? = some o) (hf : Region.free md ops listed i = true) (hr : i ∈ Region.ready md ops listed)
      (hs : StepC P ops S i o v a) (h : Plan P md ops Q S n (listed.setIfInBounds i true) (a.put o.dst v)) : Plan P md ops Q S (n + 1) listed a

theorem put_agree {o : Oper} {dst : Option Tmp} (h : ∀ d, dst = some d → d ∉ o.looksAt ops) (a : Act) (v : Value) : ∀ t ∈ o.looksAt ops, (a.put dst v).tmps[t]? = a.tmps[t]? := by
  intro t ht
  cases dst with
  | none => rfl
  | some d =>
    have hne : d ≠ t := fun e => h d rfl (e ▸ ht)
    simp [Act.put, Array.getElem?_setIfInBounds_ne hne]

theorem free_set {i j : Nat} {listed : Array Bool} (h : Region.free md ops listed i = true) : Region.free md ops (listed.setIfInBounds j true) i = true := by
  unfold Region.free at *
  split at h
  · exact absurd h (by simp)
  · rename_i oi hoi
    simp only [List.all_eq_true, List.mem_range] at h ⊢
    intro k hk
    have := h k hk
    by_cases hjk : j = k
    · subst hjk
      by_cases hl : j < listed.size
      · simp [hl]
      · simp only [Array.setIfInBounds, hl, dite_false]; exact this
    · rw [getD_set_ne true hjk]; exact this

/-- Whatever may come up could have come up first. -/
theorem Plan.first {n : Nat} {listed : Array Bool} {a : Act} (h : Plan P md ops Q S n listed a) : ∀ j, j ∈ Region.ready md ops listed →
    ∃ m oj u, n = m + 1 ∧ ops[j]? = some oj ∧ StepC P ops S j oj u a ∧ Plan P md ops Q S m (listed.setIfInBounds j true) (a.put oj.dst u) := by
  induction h with
  | done hr h => intro j hj; rw [hr] at hj; cases hj
  | @take n listed a i o v hi hf hr hs h ih =>
    intro j hj
    by_cases hji : j = i
    · subst hji; exact ⟨_, o, v, rfl, hi, hs, h⟩
    · obtain ⟨m, oj, u, rfl, hoj, hsj, hp⟩ := ih j (ready_mono hj hji)
      obtain ⟨hjun, oj', hoj', hall⟩ := mem_ready.1 hj
      obtain rfl : oj' = oj := by rw [hoj] at hoj'; exact (Option.some.inj hoj').symm
      have hnot : ∀ e ∈ oj'.after, Region.binds md e = true → e.on ≠ i := fun e he hb heq => by
        have h1 := hall e he hb
        have h0 := (mem_ready.1 hr).1
        rw [heq] at h1
        rcases Nat.lt_or_ge i listed.size with h' | h'
        · simp [h'] at h0 h1; rw [h0] at h1; cases h1
        · simp [Array.getElem?_eq_none h'] at h1
      obtain ⟨h1, h2, h3⟩ := Oper.apart_spec (Region.free_spec hi hf j oj' hoj hji hjun hnot)
      refine ⟨m + 1, oj', u, rfl, hoj, fun a' w hag hS => hsj a' w (fun t ht => (hag t ht).trans (put_agree h1 a v t ht).symm) hS, ?_⟩
      refine Plan.take i o v hi (free_set hf) (ready_mono hr (Ne.symm hji)) (fun a' w hag hS => hs a' w (fun t ht => (hag t ht).trans (put_agree h3 a u t ht)) hS) ?_
      rw [Array.setIfInBounds_comm _ _ hji, ← Act.put_comm a v u h2]
      exact hp

theorem wpOp_imp {i : Nat} {a : Act} {w : World} {K K' : Act → World → Prop} (hK : ∀ a w, K a w → K' a w) (h : wpOp P ops NoWay i K a w) : wpOp P ops Q i K' a w := by
  have h := wpOp_mono (P := P) (ops := ops) (Q := NoWay) hK h
  unfold wpOp at *
  split
  · simpa [*] using h
  · rename_i o ho
    simp only [ho] at h
    split
    · rename_i hw
      simp only [hw, if_true] at h
      rcases h with h | ⟨_, _, _, h⟩
      case inr => exact h.elim
      refine .inl ?_
      unfold Oper.wp at *
      generalize (execOp a.eval o).run P w = r at *
      cases r with
      | ok n w' =>
        cases n <;> simp only [Oper.upon] at h ⊢ <;> try exact h
        case enter f args =>
          refine Calls.mono h fun e w'' he => ?_
          cases e with
          | returned u => exact he
          | panicked c => exact (he : False).elim
          | outgrown => obtain ⟨_, _, he⟩ := he; exact (he : False).elim
      | halt x w' =>
        cases x <;> simp only [Oper.upon] at h ⊢
        case panic u => exact (h : False).elim
    · rename_i hw
      simp only [hw] at h
      exact h

theorem Plan.any : ∀ (fuel n : Nat) (listed : Array Bool) (a : Act), n ≤ fuel → Plan P md ops Q S n listed a → ∀ w, S w → wpAny P md ops Q fuel listed a w
  | 0, n, listed, a, hn, h, w, hS => by
    cases h with
    | done hr h => exact ⟨hr, h w hS⟩
    | take => omega
  | fuel + 1, n, listed, a, hn, h, w, hS => by
    refine ⟨fun hr => ?_, fun j hj => ?_⟩
    · cases h with
      | done _ h => exact h w hS
      | take i o v hi hf hr' => rw [hr] at hr'; cases hr'
    · obtain ⟨m, oj, u, rfl, hoj, hsj, hp⟩ := h.first j hj
      exact wpOp_imp (fun a' w' ⟨hS', he⟩ => by subst he; exact Plan.any fuel m _ _ (by omega) hp w' hS') (hsj a w (fun _ _ => rfl) hS)

/-- One operation at the act at hand: not wanted; or it yields v, by itself or by a call, and S holds behind it. -/
def StepV (P : Program) (ops : Array Oper) (S : World → Prop) (o : Oper) (v : Value) (a : Act) : Prop :=
  (Region.wanted o (yielded ops a.tmps) = false ∧ v = undef) ∨ (Region.wanted o (yielded ops a.tmps) = true ∧ ∀ w, S w →
    (∃ w', (execOp a.eval o).run P w = .ok (.value v) w' ∧ S w') ∨ (∃ f args w1, (execOp a.eval o).run P w = .ok (.enter f args) w1 ∧ Calls P f args w1 fun e w' => e = .returned v ∧ S w'))

theorem StepV.stepC {i : Nat} {o : Oper} {v : Value} {a : Act} (hi : ops[i]? = some o) (hns : ∀ cs b, o.op ≠ .select cs b) (h : StepV P ops S o v a) : StepC P ops S i o v a := by
  intro a' w hag hS
  unfold wpOp
  simp only [hi]
  rw [wanted_agree o hag]
  rcases h with ⟨hw, rfl⟩ | ⟨hw, h⟩
  · rw [hw]
    exact ⟨hS, rfl⟩
  · rw [hw, if_pos rfl]
    refine .inl ?_
    unfold Oper.wp
    rw [exec_agree o hns hag]
    rcases h w hS with ⟨w', h1, h2⟩ | ⟨f, args, w1, h1, h2⟩
    · rw [h1]; exact ⟨h2, rfl⟩
    · rw [h1]
      refine h2.mono fun e w' ⟨g1, g2⟩ => ?_
      subst g1
      exact ⟨g2, rfl⟩

/-- The region's text, from operation i on. -/
def PlanL (P : Program) (ops : Array Oper) (Q : Exit → Act → World → Prop) (S : World → Prop) : List Oper → Act → Prop
  | [], a => ∀ w, S w → Q .normal a w
  | o :: os, a => ∃ v, StepV P ops S o v a ∧ PlanL P ops Q S os (a.put o.dst v)

/-- The first i of n are listed. -/
def firstOf (n i : Nat) : Array Bool := (List.replicate i true ++ List.replicate (n - i) false).toArray

/-- Each operation may come up when those ahead of it in the text have, and no other one touches what it does. -/
def planOk (md : Region.Mode) (ops : Array Oper) : Bool :=
  Region.noSelect ops && (List.range ops.size).all (fun i => Region.free md ops (firstOf ops.size i) i && (Region.ready md ops (firstOf ops.size i)).contains i) && (Region.ready md ops (firstOf ops.size ops.size)).isEmpty

theorem firstOf_set {n i : Nat} (h : i < n) : (firstOf n i).setIfInBounds i true = firstOf n (i + 1) := by
  unfold firstOf
  obtain ⟨m, rfl⟩ : ∃ m, n = i + 1 + m := ⟨n - (i + 1), by omega⟩
  rw [show i + 1 + m - i = m + 1 by omega, show i + 1 + m - (i + 1) = m by omega]
  rw [List.setIfInBounds_toArray]
  congr 1
  rw [List.set_append_right _ _ (by simp)]
  simp only [List.length_replicate, Nat.sub_self, List.replicate_succ, List.set_cons_zero]
  rw [show List.replicate i true ++ true :: List.replicate m false = (List.replicate i true ++ [true]) ++ List.replicate m false by simp, ← List.replicate_succ', List.replicate_succ]

theorem PlanL.plan (hok : planOk md ops = true) : ∀ (l : List Oper) (i : Nat) (a : Act), ops.toList.drop i = l → i ≤ ops.size → PlanL P ops Q S l a → Plan P md ops Q S (ops.size - i) (firstOf ops.size i) a
  | [], i, a, hl, hi, h => by
    have : ops.size ≤ i := by simpa using hl
    obtain rfl : i = ops.size := by omega
    unfold planOk at hok
    simp only [Bool.and_eq_true, List.isEmpty_iff] at hok
    exact Plan.done hok.2 h
  | o :: os, i, a, hl, hi, h => by
    obtain ⟨v, hs, hr⟩ := h
    have hlt : i < ops.size := by
      rcases Nat.lt_or_ge i ops.size with h | h
      · exact h
      · rw [List.drop_eq_nil_of_le (by simpa using h)] at hl; cases hl
    have hio : ops[i]? = some o := by
      have h0 := congrArg (fun l => l[0]?) hl
      simpa using h0
    have hok' := hok
    unfold planOk at hok'
    simp only [Bool.and_eq_true, List.all_eq_true, List.mem_range] at hok'
    have h1 := hok'.1.2 i hlt
    rw [show ops.size - i = (ops.size - (i + 1)) + 1 by omega]
    refine Plan.take i o v hio h1.1 (by simpa using h1.2) (hs.stepC hio fun cs b => Region.noSelect_spec hok'.1.1 i o cs b hio) ?_
    rw [firstOf_set hlt]
    refine PlanL.plan hok os (i + 1) _ ?_ hlt hr
    rw [← List.drop_drop, hl]; rfl

/-- THE LAW: a region that draws its order, walked in the order of its text. -/
theorem wp_region_plan {id : Nat} {a : Act} {w : World} (S : World → Prop) (l : List Oper) (hl : ops.toList = l) (hm : P.follows .mixedOrders = true) (hok : planOk .any ops = true) (hS : S w.drew)
    (h : PlanL P ops Q S l a) : (Code.region id ops true).wp P Q a w := by
  refine wp_region_any hm ?_
  have := PlanL.plan hok l 0 a (by simpa using hl) (Nat.zero_le _) h
  refine Plan.any ops.size (ops.size - 0) _ a (by omega) ?_ w.drew hS
  rw [show Array.replicate ops.size false = firstOf ops.size 0 by simp [firstOf]]
  exact this

/-- An operation that yields v and lets the world be. -/
theorem PlanL.val {o : Oper} {os : List Oper} {a : Act} {v : Value} (hw : Region.wanted o (yielded ops a.tmps) = true)
    (h : ∀ w, S w → (execOp a.eval o).run P w = .ok (.value v) w) (hr : PlanL P ops Q S os (a.put o.dst v)) : PlanL P ops Q S (o :: os) a :=
  ⟨v, .inr ⟨hw, fun w hS => .inl ⟨w, h w hS, hS⟩⟩, hr⟩

/-- One that is not wanted. -/
theorem PlanL.skip {o : Oper} {os : List Oper} {a : Act} (hw : Region.wanted o (yielded ops a.tmps) = false) (hr : PlanL P ops Q S os (a.put o.dst undef)) : PlanL P ops Q S (o :: os) a :=
  ⟨undef, .inl ⟨hw, rfl⟩, hr⟩

/-- A call of a function by its contract: it returns v, and keeps S. -/
theorem PlanL.call {o : Oper} {os : List Oper} {a : Act} {v : Value} {f : FuncId} {args : Array Value} (hw : Region.wanted o (yielded ops a.tmps) = true)
    (he : ∀ w, S w → (execOp a.eval o).run P w = .ok (.enter f args) w) (h : ∀ w, S w → Calls P f args w fun e w' => e = .returned v ∧ S w')
    (hr : PlanL P ops Q S os (a.put o.dst v)) : PlanL P ops Q S (o :: os) a :=
  ⟨v, .inr ⟨hw, fun w hS => .inr ⟨f, args, w, he w hS, h w hS⟩⟩, hr⟩

/-- An operation that changes the world, and keeps S. -/
theorem PlanL.does {o : Oper} {os : List Oper} {a : Act} {v : Value} (hw : Region.wanted o (yielded ops a.tmps) = true)
    (h : ∀ w, S w → ∃ w', (execOp a.eval o).run P w = .ok (.value v) w' ∧ S w') (hr : PlanL P ops Q S os (a.put o.dst v)) : PlanL P ops Q S (o :: os) a :=
  ⟨v, .inr ⟨hw, fun w hS => .inl (h w hS)⟩, hr⟩

theorem PlanL.nil {a : Act} (h : ∀ w, S w → Q .normal a w) : PlanL P ops Q S [] a := h
end

end Go.Proofs.Ytdbnjlmkbmfhkaa
