/- Part 2 of the proof: Plan, Wr1, Wr2, Wr3. -/
import Derived.WalkKit
import Derived.Lib.Hide
import Derived.Outline
import Derived.LoopTactic
import Derived.Test.YthoocoaalbeopaaDoorCDc0

namespace Go.Proofs.YthoocoaalbeopaaDoor
open Go

section
variable {P : Program} {ops : Array Oper} {Q : Exit → Act → World → Prop} {md : Region.Mode} {S : World → Prop}

/-- No way out but the normal one. -/
def NoWay : Exit → Act → World → Prop := fun _ _ _ => False

/-- Operation i, in every act that agrees on what it looks at, in every world that meets S: it yields v, and S holds behind it. -/
def StepC (P : Program) (ops : Array Oper) (S : World → Prop) (i : Nat) (o : Oper) (v : Value) (a : Act) : Prop :=
  ∀ a' w, (∀ t ∈ o.looksAt ops, a'.tmps[t]? = a.tmps[t]?) → S w → wpOp P ops NoWay i (fun b w' => S w' ∧ b = a'.put o.dst v) a' w

theorem exec_agree (o : Oper) (hs : ∀ cs b, o.op ≠ .select cs b) {a a' : Act} (h : ∀ t ∈ o.looksAt ops, a'.tmps[t]? = a.tmps[t]?) : execOp a'.eval o = execOp a.eval o :=
  execOp_congr o hs fun x hx => by
    cases x with
    | tmp t =>
      have := h t (List.mem_append_left _ (List.mem_filterMap.2 ⟨.tmp t, by simpa using hx, rfl⟩))
      simp [Act.eval, this]
    | _ => rfl

theorem wanted_agree (o : Oper) {a a' : Act} (h : ∀ t ∈ o.looksAt ops, a'.tmps[t]? = a.tmps[t]?) : Region.wanted o (yielded ops a'.tmps) = Region.wanted o (yielded ops a.tmps) := by
  unfold Region.wanted
  cases hg : o.guard with
  | none => rfl
  | some gw =>
    obtain ⟨g, want⟩ := gw
    have hy : yielded ops a'.tmps g = yielded ops a.tmps g := by
      unfold yielded
      cases ht : (ops[g]?).bind (·.dst) with
      | none => rfl
      | some t => simp [h t (by simp [Oper.looksAt, hg, ht])]
    simp only [hy]

/-- The walk in one order; it serves for all. 'last': an operation that waits for all others (none, if there is no such number). -/
inductive Plan (P : Program) (md : Region.Mode) (ops : Array Oper) (Q : Exit → Act → World → Prop) (S : World → Prop) (last : Nat) : Nat → Array Bool → Act → Prop
  | done {n : Nat} {listed : Array Bool} {a : Act} (hr : Region.ready md ops listed = []) (h : ∀ w, S w → Q .normal a w) : Plan P md ops Q S last n listed a
  | stop {n : Nat} {listed : Array Bool} {a : Act} (hr : Region.ready md ops listed = [last]) (hf : Region.ready md ops (listed.setIfInBounds last true) = [])
      (h : ∀ w, S w → wpOp P ops Q last (Q .normal) a w) : Plan P md ops Q S last (n + 1) listed a
  | take {n : Nat} {listed : Array Bool} {a : Act} (i : Nat) (o : Oper) (v : Value) (hi : ops[i]? = some o) (hne : i ≠ last) (hf : Region.free md ops listed i = true) (hr : i ∈ Region.ready md ops listed)
      (hs : StepC P ops S i o v a) (h : Plan P md ops Q S last n (listed.setIfInBounds i true) (a.put o.dst v)) : Plan P md ops Q S last (n + 1) listed a

theorem put_agree {o : Oper} {dst : Option Tmp} (h : ∀ d, dst = some d → d ∉ o.looksAt ops) (a : Act) (v : Value) : ∀ t ∈ o.looksAt ops, (a.put dst v).tmps[t]? = a.tmps[t]? := by
  intro t ht
  cases dst with
  | none => rfl
  | some d =>
    have hne : d ≠ t := fun e => h d rfl (e ▸ ht)
    simp [Act.put, Array.getElem?_setIfInBounds_ne hne]

theorem free_set {i j : Nat} {listed : Array Bool} (h : Region.free md ops listed i = true) : Region.free md ops (listed.setIfInBounds j true) i = true := by
  unfold Region.free at *
  split at h
  · exact absurd h (by simp)
  · rename_i oi hoi
    simp only [List.all_eq_true, List.mem_range] at h ⊢
    intro k hk
    have := h k hk
    by_cases hjk : j = k
    · subst hjk
      by_cases hl : j < listed.size
      · simp [hl]
      · simp only [Array.setIfInBounds, hl, dite_false]; exact this
    · rw [getD_set_ne true hjk]; exact this

/-- Whatever may come up could have come up first. -/
theorem Plan.first {last n : Nat} {listed : Array Bool} {a : Act} (h : Plan P md ops Q S last n listed a) : ∀ j, j ∈ Region.ready md ops listed → j ≠ last →
    ∃ m oj u, n = m + 1 ∧ ops[j]? = some oj ∧ StepC P ops S j oj u a ∧ Plan P md ops Q S last m (listed.setIfInBounds j true) (a.put oj.dst u) := by
  induction h with
  | done hr h => intro j hj; rw [hr] at hj; cases hj
  | stop hr hf h => intro j hj hne; rw [hr] at hj; exact absurd (by simpa using hj) hne
  | @take n listed a i o v hi hne hf hr hs h ih =>
    intro j hj hjl
    by_cases hji : j = i
    · subst hji; exact ⟨_, o, v, rfl, hi, hs, h⟩
    · obtain ⟨m, oj, u, rfl, hoj, hsj, hp⟩ := ih j (ready_mono hj hji) hjl
      obtain ⟨hjun, oj', hoj', hall⟩ := mem_ready.1 hj
      obtain rfl : oj' = oj := by rw [hoj] at hoj'; exact (Option.some.inj hoj').symm
      have hnot : ∀ e ∈ oj'.after, Region.binds md e = true → e.on ≠ i := fun e he hb heq => by
        have h1 := hall e he hb
        have h0 := (mem_ready.1 hr).1
        rw [heq] at h1
        rcases Nat.lt_or_ge i listed.size with h' | h'
        · simp [h'] at h0 h1; rw [h0] at h1; cases h1
        · simp [Array.getElem?_eq_none h'] at h1
      obtain ⟨h1, h2, h3⟩ := Oper.apart_spec (Region.free_spec hi hf j oj' hoj hji hjun hnot)
      refine ⟨m + 1, oj', u, rfl, hoj, fun a' w hag hS => hsj a' w (fun t ht => (hag t ht).trans (put_agree h1 a v t ht).symm) hS, ?_⟩
      refine Plan.take i o v hi hne (free_set hf) (ready_mono hr (Ne.symm hji)) (fun a' w hag hS => hs a' w (fun t ht => (hag t ht).trans (put_agree h3 a u t ht)) hS) ?_
      rw [Array.setIfInBounds_comm _ _ hji, ← Act.put_comm a v u h2]
      exact hp

theorem wpOp_imp {i : Nat} {a : Act} {w : World} {K K' : Act → World → Prop} (hK : ∀ a w, K a w → K' a w) (h : wpOp P ops NoWay i K a w) : wpOp P ops Q i K' a w := by
  have h := wpOp_mono (P := P) (ops := ops) (Q := NoWay) hK h
  unfold wpOp at *
  split
  · simpa [*] using h
  · rename_i o ho
    simp only [ho] at h
    split
    · rename_i hw
      simp only [hw, if_true] at h
      rcases h with h | ⟨_, _, _, h⟩
      case inr => exact h.elim
      refine .inl ?_
      unfold Oper.wp at *
      generalize (execOp a.eval o).run P w = r at *
      cases r with
      | ok n w' =>
        cases n <;> simp only [Oper.upon] at h ⊢ <;> try exact h
        case enter f args =>
          refine Calls.mono h fun e w'' he => ?_
          cases e with
          | returned u => exact he
          | panicked c => exact (he : False).elim
          | outgrown => obtain ⟨_, _, he⟩ := he; exact (he : False).elim
      | halt x w' =>
        cases x <;> simp only [Oper.upon] at h ⊢
        case panic u => exact (h : False).elim
    · rename_i hw
      simp only [hw] at h
      exact h

/-- What is listed, so is all that it waits for. -/
def DC (md : Region.Mode) (ops : Array Oper) (listed : Array Bool) : Prop :=
  ∀ k o, ops[k]? = some o → listed.getD k false = true → ∀ e ∈ o.after, Region.binds md e = true → listed.getD e.on false = true

theorem DC.set {listed : Array Bool} {j : Nat} (h : DC md ops listed) (hj : j ∈ Region.ready md ops listed) : DC md ops (listed.setIfInBounds j true) := by
  intro k o hk hl e he hb
  obtain ⟨_, o', ho', hall⟩ := mem_ready.1 hj
  by_cases hjk : j = k
  · subst hjk
    obtain rfl : o' = o := by rw [ho'] at hk; exact Option.some.inj hk
    exact getD_set_true (hall e he hb)
  · rw [getD_set_ne false hjk] at hl
    exact getD_set_true (h k o hk hl e he hb)

theorem DC.none (n : Nat) : DC md ops (Array.replicate n false) := by
  intro k o _ hl
  by_cases h : k < n <;> simp [h] at hl

/-- 'last' comes up only when nothing else may. -/
def Alone (md : Region.Mode) (ops : Array Oper) (last : Nat) : Prop := ∀ listed, DC md ops listed → last ∈ Region.ready md ops listed → ∀ i ∈ Region.ready md ops listed, i = last

theorem Plan.any {last : Nat} (hL : Alone md ops last) : ∀ (fuel n : Nat) (listed : Array Bool) (a : Act), DC md ops listed → n ≤ fuel → Plan P md ops Q S last n listed a → ∀ w, S w → wpAny P md ops Q fuel listed a w
  | 0, n, listed, a, _, hn, h, w, hS => by
    cases h with
    | done hr h => exact ⟨hr, h w hS⟩
    | stop => omega
    | take => omega
  | fuel + 1, n, listed, a, hd, hn, h, w, hS => by
    refine ⟨fun hr => ?_, fun j hj => ?_⟩
    · cases h with
      | done _ h => exact h w hS
      | stop hr' => rw [hr] at hr'; cases hr'
      | take i o v hi hne hf hr' => rw [hr] at hr'; cases hr'
    · by_cases hjl : j = last
      · subst hjl
        cases h with
        | done hr => rw [hr] at hj; cases hj
        | stop hr hf h => exact wpOp_mono (fun a' w' hq => wpAny_done hf hq fuel) (h w hS)
        | take i o v hi hne hf hr' => exact absurd (hL listed hd hj i hr') hne
      · obtain ⟨m, oj, u, rfl, hoj, hsj, hp⟩ := h.first j hj hjl
        exact wpOp_imp (fun a' w' ⟨hS', he⟩ => by subst he; exact Plan.any hL fuel m _ _ (hd.set hj) (by omega) hp w' hS') (hsj a w (fun _ _ => rfl) hS)

theorem alone_none : Alone md ops ops.size := by
  intro listed _ h
  obtain ⟨_, o, ho, _⟩ := mem_ready.1 h
  simp at ho

/-- From operation k down: what those that are marked wait for is marked. -/
def markDown (md : Region.Mode) (ops : Array Oper) : Nat → Array Bool → Array Bool
  | 0, m => m
  | k + 1, m => markDown md ops k (match ops[k]? with
    | some o => if m.getD k false then (o.after.toList.filter (Region.binds md)).foldl (fun m e => m.setIfInBounds e.on true) m else m
    | none => m)

theorem markDown_spec {listed : Array Bool} (hd : DC md ops listed) : ∀ (k : Nat) (m : Array Bool), (∀ j, m.getD j false = true → listed.getD j false = true) → ∀ j, (markDown md ops k m).getD j false = true → listed.getD j false = true
  | 0, m, h => h
  | k + 1, m, h => by
    refine markDown_spec hd k _ ?_
    split
    · rename_i o ho
      split
      · rename_i hk
        have hall : ∀ e ∈ o.after.toList.filter (Region.binds md), listed.getD e.on false = true := fun e he => by
          rw [List.mem_filter] at he
          exact hd k o ho (h k hk) e (by simpa using he.1) he.2
        generalize o.after.toList.filter (Region.binds md) = es at hall
        clear hk
        induction es generalizing m with
        | nil => exact h
        | cons e es ih =>
          refine ih (m.setIfInBounds e.on true) (fun j hj => ?_) (fun e' he' => hall e' (List.mem_cons_of_mem _ he'))
          by_cases hej : e.on = j
          · subst hej; exact hall e List.mem_cons_self
          · rw [getD_set_ne false hej] at hj; exact h j hj
      · exact h
    · exact h

/-- The last operation of the text waits for all others. -/
def lastOk (md : Region.Mode) (ops : Array Oper) : Bool :=
  (List.range ops.size).all fun k => (markDown md ops ops.size ((Array.replicate ops.size false).setIfInBounds (ops.size - 1) true)).getD k false

theorem alone_last (h : lastOk md ops = true) : Alone md ops (ops.size - 1) := by
  intro listed hd hl i hi
  have hd' := hd.set hl
  have h0 : ∀ j, ((Array.replicate ops.size false).setIfInBounds (ops.size - 1) true).getD j false = true → (listed.setIfInBounds (ops.size - 1) true).getD j false = true := by
    intro j hj
    by_cases hjl : ops.size - 1 = j
    · subst hjl
      have := (mem_ready.1 hl).1
      rcases Nat.lt_or_ge (ops.size - 1) listed.size with h' | h'
      · simp [h']
      · simp [Array.getElem?_eq_none h'] at this
    · rw [getD_set_ne false hjl] at hj
      by_cases h2 : j < ops.size <;> simp [h2] at hj
  obtain ⟨hiun, o, ho, _⟩ := mem_ready.1 hi
  have hlt : i < ops.size := (Array.getElem?_eq_some_iff.1 ho).1
  unfold lastOk at h
  simp only [List.all_eq_true, List.mem_range] at h
  have := markDown_spec hd' _ _ h0 i (h i hlt)
  by_cases hil : i = ops.size - 1
  · exact hil
  · rw [getD_set_ne false (Ne.symm hil)] at this
    rcases Nat.lt_or_ge i listed.size with h' | h'
    · simp [h'] at this hiun; rw [hiun] at this; cases this
    · simp [Array.getElem?_eq_none h'] at hiun

/-- One operation at the act at hand: not wanted; or it yields v, by itself or by a call, and S holds behind it. -/
def StepV (P : Program) (ops : Array Oper) (S : World → Prop) (o : Oper) (v : Value) (a : Act) : Prop :=
  (Region.wanted o (yielded ops a.tmps) = false ∧ v = undef) ∨ (Region.wanted o (yielded ops a.tmps) = true ∧ ∀ w, S w →
    (∃ w', (execOp a.eval o).run P w = .ok (.value v) w' ∧ S w') ∨ (∃ f args w1, (execOp a.eval o).run P w = .ok (.enter f args) w1 ∧ Calls P f args w1 fun e w' => e = .returned v ∧ S w'))

theorem StepV.stepC {i : Nat} {o : Oper} {v : Value} {a : Act} (hi : ops[i]? = some o) (hns : ∀ cs b, o.op ≠ .select cs b) (h : StepV P ops S o v a) : StepC P ops S i o v a := by
  intro a' w hag hS
  unfold wpOp
  simp only [hi]
  rw [wanted_agree o hag]
  rcases h with ⟨hw, rfl⟩ | ⟨hw, h⟩
  · rw [hw]
    exact ⟨hS, rfl⟩
  · rw [hw, if_pos rfl]
    refine .inl ?_
    unfold Oper.wp
    rw [exec_agree o hns hag]
    rcases h w hS with ⟨w', h1, h2⟩ | ⟨f, args, w1, h1, h2⟩
    · rw [h1]; exact ⟨h2, rfl⟩
    · rw [h1]
      refine h2.mono fun e w' ⟨g1, g2⟩ => ?_
      subst g1
      exact ⟨g2, rfl⟩

/-- The region's text, from operation i on; E: what is asked behind it. -/
def PlanL (P : Program) (ops : Array Oper) (E : Act → World → Prop) (S : World → Prop) : List Oper → Act → Prop
  | [], a => ∀ w, S w → E a w
  | o :: os, a => ∃ v, StepV P ops S o v a ∧ PlanL P ops E S os (a.put o.dst v)

/-- The first i of n are listed. -/
def firstOf (n i : Nat) : Array Bool := (List.replicate i true ++ List.replicate (n - i) false).toArray

/-- Each of the first m operations may come up when those ahead of it in the text have, and no other one touches what it does. -/
def frontOk (md : Region.Mode) (ops : Array Oper) (m : Nat) : Bool :=
  Region.noSelect ops && (List.range m).all (fun i => Region.free md ops (firstOf ops.size i) i && (Region.ready md ops (firstOf ops.size i)).contains i)
def planOk (md : Region.Mode) (ops : Array Oper) : Bool := frontOk md ops ops.size && (Region.ready md ops (firstOf ops.size ops.size)).isEmpty
def planLastOk (md : Region.Mode) (ops : Array Oper) : Bool :=
  frontOk md ops (ops.size - 1) && (Region.ready md ops (firstOf ops.size (ops.size - 1)) == [ops.size - 1]) && (Region.ready md ops (firstOf ops.size ops.size)).isEmpty && lastOk md ops

theorem firstOf_set {n i : Nat} (h : i < n) : (firstOf n i).setIfInBounds i true = firstOf n (i + 1) := by
  unfold firstOf
  obtain ⟨m, rfl⟩ : ∃ m, n = i + 1 + m := ⟨n - (i + 1), by omega⟩
  rw [show i + 1 + m - i = m + 1 by omega, show i + 1 + m - (i + 1) = m by omega]
  rw [List.setIfInBounds_toArray]
  congr 1
  rw [List.set_append_right _ _ (by simp)]
  simp only [List.length_replicate, Nat.sub_self, List.replicate_succ, List.set_cons_zero]
  rw [show List.replicate i true ++ true :: List.replicate m false = (List.replicate i true ++ [true]) ++ List.replicate m false by simp, ← List.replicate_succ', List.replicate_succ]

theorem PlanL.plan {m last : Nat} {E : Act → World → Prop} (hok : frontOk md ops m = true) (hm : m ≤ ops.size) (hlast : m ≤ last) {k : Nat}
    (hend : ∀ a, (∀ w, S w → E a w) → Plan P md ops Q S last k (firstOf ops.size m) a) :
    ∀ (l : List Oper) (i : Nat) (a : Act), (ops.toList.take m).drop i = l → i ≤ m → PlanL P ops E S l a → Plan P md ops Q S last (m - i + k) (firstOf ops.size i) a
  | [], i, a, hl, hi, h => by
    have : m ≤ i := by
      have := congrArg List.length hl
      simp at this
      omega
    obtain rfl : i = m := by omega
    rw [Nat.sub_self, Nat.zero_add]
    exact hend a h
  | o :: os, i, a, hl, hi, h => by
    obtain ⟨v, hs, hr⟩ := h
    have hlt : i < m := by
      rcases Nat.lt_or_ge i m with h | h
      · exact h
      · rw [List.drop_eq_nil_of_le (by simp; omega)] at hl; cases hl
    have hio : ops[i]? = some o := by
      have h0 := congrArg (fun l => l[0]?) hl
      simp [hlt] at h0
      simpa using h0
    have hok' := hok
    unfold frontOk at hok'
    simp only [Bool.and_eq_true, List.all_eq_true, List.mem_range] at hok'
    have h1 := hok'.2 i hlt
    rw [show m - i + k = (m - (i + 1) + k) + 1 by omega]
    refine Plan.take i o v hio (by omega) h1.1 (by simpa using h1.2) (hs.stepC hio fun cs b => Region.noSelect_spec hok'.1 i o cs b hio) ?_
    rw [firstOf_set (by omega)]
    refine PlanL.plan hok hm hlast hend os (i + 1) _ ?_ hlt hr
    rw [← List.drop_drop, hl]; rfl

/-- THE LAW: a region that draws its order, walked in the order of its text. -/
theorem wp_region_plan {id : Nat} {a : Act} {w : World} (S : World → Prop) (l : List Oper) (hl : ops.toList = l) (hm : P.follows .mixedOrders = true) (hok : planOk .any ops = true) (hS : S w.drew)
    (h : PlanL P ops (Q .normal) S l a) : (Code.region id ops true).wp P Q a w := by
  refine wp_region_any hm ?_
  unfold planOk at hok
  simp only [Bool.and_eq_true, List.isEmpty_iff] at hok
  have := PlanL.plan (Q := Q) (k := 0) hok.1 (Nat.le_refl _) (Nat.le_refl _) (fun a h => Plan.done hok.2 h) l 0 a (by rw [List.drop_zero, List.take_of_length_le (by simp)]; exact hl) (Nat.zero_le _) h
  refine Plan.any alone_none ops.size (ops.size - 0 + 0) _ a (DC.none _) (by omega) ?_ w.drew hS
  rw [show Array.replicate ops.size false = firstOf ops.size 0 by simp [firstOf]]
  exact this

/-- A list but its last element, and that one. -/
def splitLast : List Oper → Option (List Oper × Oper)
  | [] => none
  | [x] => some ([], x)
  | x :: y :: r => match splitLast (y :: r) with
    | some (l, z) => some (x :: l, z)
    | none => none

theorem splitLast_eq : ∀ {l f : List Oper} {z : Oper}, splitLast l = some (f, z) → l = f ++ [z]
  | [], f, z, h => by simp [splitLast] at h
  | [x], f, z, h => by
    simp only [splitLast, Option.some.injEq, Prod.mk.injEq] at h
    obtain ⟨rfl, rfl⟩ := h
    rfl
  | x :: y :: r, f, z, h => by
    simp only [splitLast] at h
    cases hs : splitLast (y :: r) with
    | none => rw [hs] at h; cases h
    | some p =>
      rw [hs] at h
      simp only [Option.some.injEq, Prod.mk.injEq] at h
      obtain ⟨rfl, rfl⟩ := h
      rw [splitLast_eq (l := y :: r) (f := p.1) (z := p.2) hs]
      rfl

/-- THE SAME where the last operation waits for all others and may change S. -/
theorem wp_region_last {id : Nat} {a : Act} {w : World} (S : World → Prop) (l : List Oper) (o : Oper) (hl0 : splitLast ops.toList = some (l, o)) (hm : P.follows .mixedOrders = true) (hok : planLastOk .any ops = true)
    (hg : o.guard = none) (hS : S w.drew) (h : PlanL P ops (fun a w => o.wp P a w (Q .normal) Q) S l a) : (Code.region id ops true).wp P Q a w := by
  refine wp_region_any hm ?_
  unfold planLastOk at hok
  simp only [Bool.and_eq_true, List.isEmpty_iff, beq_iff_eq] at hok
  have hl := splitLast_eq hl0
  have hn : ops.size = l.length + 1 := by
    have := congrArg List.length hl
    simpa using this
  have ho : ops[ops.size - 1]? = some o := by
    have : ops.toList[ops.size - 1]? = some o := by rw [hl, show ops.size - 1 = l.length by omega]; simp
    simpa using this
  have hw : ∀ y, Region.wanted o y = true := fun y => by unfold Region.wanted; rw [hg]
  have := PlanL.plan (P := P) (Q := Q) (S := S) (last := ops.size - 1) (k := 1) hok.1.1.1 (by omega) (Nat.le_refl _) (fun a h => Plan.stop hok.1.1.2 (by rw [firstOf_set (by omega), show ops.size - 1 + 1 = ops.size by omega]; exact hok.1.2)
    (fun w hS => by unfold wpOp; simp only [ho]; rw [hw, if_pos rfl]; exact .inl (h w hS))) l 0 a (by rw [hl, show ops.size - 1 = l.length by omega]; simp) (Nat.zero_le _) h
  refine Plan.any (alone_last hok.2) ops.size (ops.size - 1 - 0 + 1) _ a (DC.none _) (by omega) ?_ w.drew hS
  rw [show Array.replicate ops.size false = firstOf ops.size 0 by simp [firstOf]]
  exact this

variable {E : Act → World → Prop}
/-- An operation that yields v and lets the world be. -/
theorem PlanL.val {o : Oper} {os : List Oper} {a : Act} {v : Value} (hw : Region.wanted o (yielded ops a.tmps) = true)
    (h : ∀ w, S w → (execOp a.eval o).run P w = .ok (.value v) w) (hr : PlanL P ops E S os (a.put o.dst v)) : PlanL P ops E S (o :: os) a :=
  ⟨v, .inr ⟨hw, fun w hS => .inl ⟨w, h w hS, hS⟩⟩, hr⟩

/-- One that is not wanted. -/
theorem PlanL.skip {o : Oper} {os : List Oper} {a : Act} (hw : Region.wanted o (yielded ops a.tmps) = false) (hr : PlanL P ops E S os (a.put o.dst undef)) : PlanL P ops E S (o :: os) a :=
  ⟨undef, .inl ⟨hw, rfl⟩, hr⟩

/-- A call of a function by its contract: it returns v, and keeps S. -/
theorem PlanL.call {o : Oper} {os : List Oper} {a : Act} {v : Value} {f : FuncId} {args : Array Value} (hw : Region.wanted o (yielded ops a.tmps) = true)
    (he : ∀ w, S w → (execOp a.eval o).run P w = .ok (.enter f args) w) (h : ∀ w, S w → Calls P f args w fun e w' => e = .returned v ∧ S w')
    (hr : PlanL P ops E S os (a.put o.dst v)) : PlanL P ops E S (o :: os) a :=
  ⟨v, .inr ⟨hw, fun w hS => .inr ⟨f, args, w, he w hS, h w hS⟩⟩, hr⟩

/-- An operation that changes the world, and keeps S. -/
theorem PlanL.does {o : Oper} {os : List Oper} {a : Act} {v : Value} (hw : Region.wanted o (yielded ops a.tmps) = true)
    (h : ∀ w, S w → ∃ w', (execOp a.eval o).run P w = .ok (.value v) w' ∧ S w') (hr : PlanL P ops E S os (a.put o.dst v)) : PlanL P ops E S (o :: os) a :=
  ⟨v, .inr ⟨hw, fun w hS => .inl (h w hS)⟩, hr⟩

theorem PlanL.nil {a : Act} (h : ∀ w, S w → E a w) : PlanL P ops E S [] a := h
end

end Go.Proofs.YthoocoaalbeopaaDoor

namespace Go.Proofs.YthoocoaalbeopaaDoor
open Go Go.RowKit

theorem wlen_low (p R : Nat) (F : Bool) (A : Option Addr) (n c z : Nat) (gv : Value) (w : World) (hb : Blk w p 80 #[.int .i64 (R : Nat), .bool F, .slice A n c, gv, .int .i64 (z : Nat)]) (hn : n + z ≤ 4611686018427387904) :
    Calls Tryd.prog 56 #[.pointer (some ⟨p, 0, none⟩)] w fun e w' => e = .returned (.int .i64 ((n + z : Nat) : Int)) ∧ Below w.heap.size w w' := by
  have HK : ∀ w', Below w.heap.size w w' → KB w' [(p, [.int .i64 (R : Nat), .bool F, .slice A n c, gv, .int .i64 (z : Nat)])] := fun w' hS => (hb.below hS).kb
  have s1 : IntKind.i64.wrap ((n : Int) + (z : Int)) = (n : Int) + (z : Int) := IntWalk.i64_in _ (by omega)
  go_enter Tryd.func56, Tryd.ntmps56
  go_wp2
  refine wp_region_plan (fun w' => Below w.heap.size w w') _ rfl (by kernel_rfl) (by kernel_rfl) ((Below.refl _ _).drew) ?_
  repeat (first
    | (refine PlanL.skip (by rfl) ?_; simp only [Act.put, List.setIfInBounds_toArray, List.set_cons_zero, List.set_cons_succ])
    | (refine PlanL.val (v := ?_) (by rfl) ?_ ?_; rotate_left; (focus (intro w' hS; have F := HK _ hS; simp only [KB, CellsAt, Nat.zero_add, Nat.reduceAdd, and_true] at F; go_simp <;> with_reducible rfl)); try simp only [Act.put, List.setIfInBounds_toArray, List.set_cons_zero, List.set_cons_succ]))
  refine PlanL.nil ?_
  intro w' hS
  have F := HK _ hS; simp only [KB, CellsAt, Nat.zero_add, Nat.reduceAdd, and_true] at F
  clear F s1
  go_wp2
  go_ret
  exact ⟨ret_int (by simp), hS⟩

theorem fits_full (p R : Nat) (A : Option Addr) (n c z : Nat) (gv : Value) (x : Int) (w : World) (hb : Blk w p 80 #[.int .i64 (R : Nat), .bool true, .slice A n c, gv, .int .i64 (z : Nat)]) :
    Calls Tryd.prog 75 #[.pointer (some ⟨p, 0, none⟩), .int .i64 x] w fun e w' => e = .returned (.bool false) ∧ Blk w' p 80 #[.int .i64 (R : Nat), .bool true, .slice A n c, gv, .int .i64 (z : Nat)] ∧ Only w w' [p] := by
  have HK : ∀ w', Below w.heap.size w w' → KB w' [(p, [.int .i64 (R : Nat), .bool true, .slice A n c, gv, .int .i64 (z : Nat)])] := fun w' hS => (hb.below hS).kb
  skip
  go_enter Tryd.func75, Tryd.ntmps75
  go_wp2
  refine wp_region_last (fun w' => Below w.heap.size w w') _ _ (by rfl) (by kernel_rfl) (by kernel_rfl) (by rfl) ((Below.refl _ _).drew) ?_
  repeat (first
    | (refine PlanL.skip (by rfl) ?_; simp only [Act.put, List.setIfInBounds_toArray, List.set_cons_zero, List.set_cons_succ])
    | (refine PlanL.val (v := ?_) (by rfl) ?_ ?_; rotate_left; (focus (intro w' hS; have F := HK _ hS; simp only [KB, CellsAt, Nat.zero_add, Nat.reduceAdd, and_true] at F; go_simp <;> with_reducible rfl)); try simp only [Act.put, List.setIfInBounds_toArray, List.set_cons_zero, List.set_cons_succ]))
  refine PlanL.nil ?_
  intro w' hS
  have F := HK _ hS; simp only [KB, CellsAt, Nat.zero_add, Nat.reduceAdd, and_true] at F
  have hb1 := (hb.below hS).set 1 (.bool true)
  go_wp2
  go_ret
  refine ⟨rfl, hb1, (Only.of_below hS [p]).set (.inl (by simp)) _⟩

theorem fits_no (p R : Nat) (A : Option Addr) (n c z : Nat) (gv : Value) (x : Int) (w : World) (hb : Blk w p 80 #[.int .i64 (R : Nat), .bool false, .slice A n c, gv, .int .i64 (z : Nat)]) (hn : n + z ≤ 4611686018427387904) (hR : R ≤ 4611686018427387904) (hx : (R : Int) - ((n + z : Nat) : Int) < x) :
    Calls Tryd.prog 75 #[.pointer (some ⟨p, 0, none⟩), .int .i64 x] w fun e w' => e = .returned (.bool false) ∧ Blk w' p 80 #[.int .i64 (R : Nat), .bool true, .slice A n c, gv, .int .i64 (z : Nat)] ∧ Only w w' [p] := by
  have HK : ∀ w', Below w.heap.size w w' → KB w' [(p, [.int .i64 (R : Nat), .bool false, .slice A n c, gv, .int .i64 (z : Nat)])] := fun w' hS => (hb.below hS).kb
  have s1 : IntKind.i64.wrap ((R : Int) - ((n : Int) + (z : Int))) = (R : Int) - ((n : Int) + (z : Int)) := IntWalk.i64_in _ (by omega)
  have d1 : decide ((R : Int) - ((n : Int) + (z : Int)) < x) = true := by simpa using hx
  go_enter Tryd.func75, Tryd.ntmps75
  go_wp2
  refine wp_region_last (fun w' => Below w.heap.size w w') _ _ (by rfl) (by kernel_rfl) (by kernel_rfl) (by rfl) ((Below.refl _ _).drew) ?_
  repeat (first
    | (refine PlanL.skip (by rfl) ?_; simp only [Act.put, List.setIfInBounds_toArray, List.set_cons_zero, List.set_cons_succ])
    | (refine PlanL.val (v := ?_) (by rfl) ?_ ?_; rotate_left; (focus (intro w' hS; have F := HK _ hS; simp only [KB, CellsAt, Nat.zero_add, Nat.reduceAdd, and_true] at F; go_simp <;> with_reducible rfl)); try simp only [Act.put, List.setIfInBounds_toArray, List.set_cons_zero, List.set_cons_succ])
    | (refine PlanL.call (v := ?_) (f := ?_) (args := ?_) (by rfl) ?_ ?_ ?_; rotate_left 3; (focus (intro w' hS; have F := HK _ hS; simp only [KB, CellsAt, Nat.zero_add, Nat.reduceAdd, and_true] at F; go_simp; (constructor <;> with_reducible rfl))); (focus (intro w' hS; first | ((with_reducible refine (wlen_low p R _ A n c z gv w' (hb.below hS) hn).mono ?_); rintro e w'' ⟨rfl, b⟩; refine ⟨?_, (Below.trans hS (b.mono hS.size))⟩; with_reducible rfl) | fail)); try simp only [Act.put, List.setIfInBounds_toArray, List.set_cons_zero, List.set_cons_succ]))
  refine PlanL.nil ?_
  intro w' hS
  have F := HK _ hS; simp only [KB, CellsAt, Nat.zero_add, Nat.reduceAdd, and_true] at F
  have hb1 := (hb.below hS).set 1 (.bool true)
  go_wp2
  go_ret
  refine ⟨rfl, hb1, (Only.of_below hS [p]).set (.inl (by simp)) _⟩

theorem fits_yes (p R : Nat) (A : Option Addr) (n c z : Nat) (gv : Value) (x : Int) (w : World) (hb : Blk w p 80 #[.int .i64 (R : Nat), .bool false, .slice A n c, gv, .int .i64 (z : Nat)]) (hn : n + z ≤ 4611686018427387904) (hR : R ≤ 4611686018427387904) (hx : x ≤ (R : Int) - ((n + z : Nat) : Int)) :
    Calls Tryd.prog 75 #[.pointer (some ⟨p, 0, none⟩), .int .i64 x] w fun e w' => e = .returned (.bool true) ∧ Blk w' p 80 #[.int .i64 (R : Nat), .bool false, .slice A n c, gv, .int .i64 (z : Nat)] ∧ Only w w' [p] := by
  have HK : ∀ w', Below w.heap.size w w' → KB w' [(p, [.int .i64 (R : Nat), .bool false, .slice A n c, gv, .int .i64 (z : Nat)])] := fun w' hS => (hb.below hS).kb
  have s1 : IntKind.i64.wrap ((R : Int) - ((n : Int) + (z : Int))) = (R : Int) - ((n : Int) + (z : Int)) := IntWalk.i64_in _ (by omega)
  have d1 : decide ((R : Int) - ((n : Int) + (z : Int)) < x) = false := by simpa using hx
  go_enter Tryd.func75, Tryd.ntmps75
  go_wp2
  refine wp_region_last (fun w' => Below w.heap.size w w') _ _ (by rfl) (by kernel_rfl) (by kernel_rfl) (by rfl) ((Below.refl _ _).drew) ?_
  repeat (first
    | (refine PlanL.skip (by rfl) ?_; simp only [Act.put, List.setIfInBounds_toArray, List.set_cons_zero, List.set_cons_succ])
    | (refine PlanL.val (v := ?_) (by rfl) ?_ ?_; rotate_left; (focus (intro w' hS; have F := HK _ hS; simp only [KB, CellsAt, Nat.zero_add, Nat.reduceAdd, and_true] at F; go_simp <;> with_reducible rfl)); try simp only [Act.put, List.setIfInBounds_toArray, List.set_cons_zero, List.set_cons_succ])
    | (refine PlanL.call (v := ?_) (f := ?_) (args := ?_) (by rfl) ?_ ?_ ?_; rotate_left 3; (focus (intro w' hS; have F := HK _ hS; simp only [KB, CellsAt, Nat.zero_add, Nat.reduceAdd, and_true] at F; go_simp; (constructor <;> with_reducible rfl))); (focus (intro w' hS; first | ((with_reducible refine (wlen_low p R _ A n c z gv w' (hb.below hS) hn).mono ?_); rintro e w'' ⟨rfl, b⟩; refine ⟨?_, (Below.trans hS (b.mono hS.size))⟩; with_reducible rfl) | fail)); try simp only [Act.put, List.setIfInBounds_toArray, List.set_cons_zero, List.set_cons_succ]))
  refine PlanL.nil ?_
  intro w' hS
  have F := HK _ hS; simp only [KB, CellsAt, Nat.zero_add, Nat.reduceAdd, and_true] at F
  have hb1 := (hb.below hS).set 1 (.bool false)
  go_wp2
  go_ret
  refine ⟨rfl, hb1, (Only.of_below hS [p]).set (.inl (by simp)) _⟩

end Go.Proofs.YthoocoaalbeopaaDoor

namespace Go.Proofs.YthoocoaalbeopaaDoor
open Go Go.RowKit

/-- A writer at block p: its room, whether it is full, the bytes that it has taken; fp: the blocks that it owns. -/
def Wr (w : World) (p R : Nat) (F : Bool) (L : List Value) (fp : List Nat) : Prop :=
  ∃ (D : List Value) (G : List (Nat × Nat)) (dv gv : Value), Blk w p 80 #[.int .i64 (R : Nat), .bool F, dv, gv, .int .i64 (gapSum G : Nat)] ∧ w.ownsRow 0 5 1 dv D.length D ∧ w.ownsRow 0 84 2 gv G.length (gapCells G) ∧
    GapsOk 0 G D.length ∧ Bytes8 D ∧ L = expand D 0 G ∧ L.length ≤ R ∧ fp = p :: (blk dv ++ blk gv)

/-- What becomes of a writer that is handed E. -/
def putF (R : Nat) (F : Bool) (L E : List Value) : Bool := F || decide (R < L.length + E.length)
def putL (R : Nat) (F : Bool) (L E : List Value) : List Value := if putF R F L E then L else L ++ E
def Put (w w' : World) (p R : Nat) (F : Bool) (L : List Value) (fp : List Nat) (E : List Value) : Prop :=
  ∃ fp', Wr w' p R (putF R F L E) (putL R F L E) fp' ∧ Only w w' fp ∧ ∀ b ∈ fp', b ∈ fp ∨ w.heap.size ≤ b

theorem u8Info : (Tryd.prog.info? 5).map (fun i => (i.zero, i.size, i.bytes)) = some (some (.int .u8 0), 1, 1) := by kernel_rfl
theorem gapInfo : (Tryd.prog.info? 84).map (fun i => (i.zero, i.size, i.bytes)) = some (some (.agg #[.int .i64 0, .int .i64 0]), 2, 16) := by kernel_rfl
theorem ret_ptr (p : Nat) : Ending.returned (.pointer (some ⟨p, 0, none⟩)) = Ending.returned (.pointer (some ⟨p, 0, none⟩)) := rfl

theorem Wr.lt {w : World} {p R : Nat} {F : Bool} {L : List Value} {fp : List Nat} (h : Wr w p R F L fp) : ∀ b ∈ fp, b < w.heap.size := by
  obtain ⟨D, G, dv, gv, hb, hd, hg, _, _, _, _, rfl⟩ := h
  intro b hm
  rcases List.mem_cons.1 hm with rfl | hm
  · exact hb.lt
  · rcases List.mem_append.1 hm with hm | hm
    · exact blk_lt hd b hm
    · exact blk_lt hg b hm

/-- A writer stays where other blocks are changed. -/
theorem Wr.only {w w1 : World} {p R : Nat} {F : Bool} {L : List Value} {fp fq : List Nat} (h : Wr w p R F L fp) (k : Only w w1 fq) (hn : ∀ b ∈ fp, b ∉ fq) : Wr w1 p R F L fp := by
  obtain ⟨D, G, dv, gv, hb, hd, hg, h1, h2, h3, h4, rfl⟩ := h
  exact ⟨D, G, dv, gv, hb.only k (hn p (by simp)), own_only hd k (fun b hm => hn b (by simp [hm])), own_only hg k (fun b hm => hn b (by simp [hm])), h1, h2, h3, h4, rfl⟩

theorem wlen_any (p R : Nat) (F : Bool) (L : List Value) (fp : List Nat) (w : World) (h : Wr w p R F L fp) (hR : R ≤ 1099511627776) :
    Calls Tryd.prog 56 #[.pointer (some ⟨p, 0, none⟩)] w fun e w' => e = .returned (.int .i64 (L.length : Nat)) ∧ Below w.heap.size w w' := by
  obtain ⟨D, G, dv, gv, hb, hd, hg, h1, h2, h3, h4, rfl⟩ := h
  have hl := expand_len D G 0 h1
  obtain ⟨A, c, rfl, _, _⟩ := own_lists hd
  refine (wlen_low p R F A D.length c (gapSum G) gv w hb (by rw [← h3] at hl; omega)).mono fun e w' ⟨h5, h6⟩ => ⟨?_, h6⟩
  rw [h5, h3, hl, Nat.sub_zero]

theorem put_full (w w' : World) (p R : Nat) (F : Bool) (L : List Value) (fp : List Nat) (E : List Value) (hf : putF R F L E = true) (hW : Wr w p R F L fp) (dv gv : Value) (D : List Value) (G : List (Nat × Nat))
    (hd : w.ownsRow 0 5 1 dv D.length D) (hg : w.ownsRow 0 84 2 gv G.length (gapCells G)) (h1 : GapsOk 0 G D.length) (h2 : Bytes8 D) (h3 : L = expand D 0 G) (h4 : L.length ≤ R) (h5 : fp = p :: (blk dv ++ blk gv))
    (hb : Blk w p 80 #[.int .i64 (R : Nat), .bool F, dv, gv, .int .i64 (gapSum G : Nat)]) (hb' : Blk w' p 80 #[.int .i64 (R : Nat), .bool true, dv, gv, .int .i64 (gapSum G : Nat)]) (ho : Only w w' [p]) : Put w w' p R F L fp E := by
  have n1 := own_ne hd hb (by decide)
  have n2 := own_ne hg hb (by decide)
  refine ⟨fp, ?_, ho.more (fun b hm => by simp at hm; subst hm; subst h5; simp), fun b hm => .inl hm⟩
  unfold putL
  rw [hf, if_pos rfl]
  exact ⟨D, G, dv, gv, hb', own_only hd ho (fun b hm e => by simp at e; subst e; exact n1 hm), own_only hg ho (fun b hm e => by simp at e; subst e; exact n2 hm), h1, h2, h3, h4, h5⟩

set_option maxRecDepth 100000 in
theorem data_any (p R : Nat) (F : Bool) (L : List Value) (fp : List Nat) (A : Option Addr) (m c B : Nat) (E : List Value) (w : World) (hW : Wr w p R F L fp) (hR : R ≤ 1099511627776) (hE : Lists w B A E) (hm : E.length = m) (hB : B ≤ w.heap.size) (h8 : Bytes8 E) (hfar : ∀ a, A = some a → E ≠ [] → a.block ≠ p) :
    Calls Tryd.prog 68 #[.pointer (some ⟨p, 0, none⟩), .slice A m c] w fun e w' => e = .returned (.pointer (some ⟨p, 0, none⟩)) ∧ Put w w' p R F L fp E := by
  obtain ⟨D, G, dv, gv, hb, hd, hg, h1, h2, h3, h4, h5⟩ := id hW
  have hl := expand_len D G 0 h1
  rw [← h3, Nat.sub_zero] at hl
  obtain ⟨A0, c0, rfl, hd0, hc0⟩ := own_lists hd
  cases hf : putF R F L E
  · -- it fits
    have hF : F = false := by unfold putF at hf; simp at hf; exact hf.1
    have hx : L.length + E.length ≤ R := by unfold putF at hf; simp at hf; exact hf.2
    subst hF
    have C := fits_yes p R A0 D.length c0 (gapSum G) gv (m : Int) w hb (by omega) (by omega) (by omega)
    obtain ⟨i0, hi, hz0, hz1, hz2⟩ := info_parts u8Info
    have n1 := own_ne hd hb (by decide)
    have n2 := own_ne hg hb (by decide)
    have n3 := own_own hd hg (by decide)
    have HM := Lib.hid hm
    have HL := Lib.hid hl
    have H3 := Lib.hid h3
    have H5 := Lib.hid h5
    have HF := Lib.hid hf
    have HW := Lib.hid hW
    have HFAR := Lib.hid hfar
    clear hm hl h3 h5 hf hW hfar
    go_enter Tryd.func68, Tryd.ntmps68
    go_wp2_with (first | (go_at_call 75; ((with_reducible refine (C).mono ?_); rintro e w1 ⟨rfl, hb1, ho1⟩; have F1 := hb1.kb; simp only [KB, CellsAt, Nat.zero_add, Nat.reduceAdd, and_true] at F1)) | (at_builtin; refine wpList_append_src _ rfl (.tmp 13) (.tmp 14) 22 rfl 0 5 i0 (.int .u8 0) 1 1 Tryd.underlying22 hi hz0 hz1 hz2 rfl (by decide) (.slice A0 D.length c0) D.length D rfl (own_only hd ho1 (fun b hm e => by simp at e; subst e; exact n1 hm)) B A m c E rfl (lists_only hE hB ho1 (fun a ha hx e => by simp at e; exact HFAR.out a ha hx e)) (by rw [HM.out, Nat.mul_one]) h8.one (by simp only [maxLen]; have := HM.out; have := HL.out; omega) (by have := HM.out; have := HL.out; omega) (Nat.zero_le _) ?_; intro v2 w2 hown hgr hat; obtain ⟨A2, k2, rfl, _, _⟩ := own_lists hown; have o2 : Only w1 w2 (blk (.slice A0 D.length c0)) := (Only.refl _ _).grown hgr (fun b hb => .inl (by simp [blk, hb])); have hb2 := hb1.only o2 n1; clear F1; have F2 := hb2.kb; simp only [KB, CellsAt, Nat.zero_add, Nat.reduceAdd, and_true] at F2))
    go_ret
    obtain ⟨v2, hv2⟩ : ∃ v, v = Value.slice A2 (D.length + m) k2 := ⟨_, rfl⟩
    rw [← hv2] at hown hat ⊢
    refine ⟨rfl, p :: (blk v2 ++ blk gv), ?_, ?_, ?_⟩
    · have n4 := own_ne hown hb2 (by decide)
      have o3 : Only w2 (w2.setCell ⟨p, 2, none⟩ v2) [p] := (Only.refl _ _).set (.inl (by simp)) _
      have g1 := own_only hg ho1 (fun b hm e => by simp at e; subst e; exact n2 hm)
      have g2 := own_only g1 o2 (fun b hm e => n3 b e hm)
      rw [HF.out]
      unfold putL
      rw [HF.out, if_neg (by simp)]
      refine ⟨D ++ E, G, v2, gv, hb2.set 2 v2, ?_, own_only g2 o3 (fun b hm e => by simp at e; subst e; exact n2 hm), h1.more (by simp), h2.append h8, ?_, ?_, rfl⟩
      · rw [show (D ++ E).length = D.length + m by rw [List.length_append, HM.out]]
        exact own_only hown o3 (fun b hm e => by simp at e; subst e; exact n4 hm)
      · rw [expand_data D E G 0 h1, ← H3.out]
      · rw [List.length_append]; exact hx
    · rw [H5.out]
      exact ((ho1.more (fun b hm => by simp at hm; subst hm; simp)).trans o2 (fun b hm => .inl (by simp [hm]))).set (.inl (by simp)) _
    · intro b hm
      rw [H5.out]
      rcases List.mem_cons.1 hm with rfl | hm
      · exact .inl (by simp)
      · rcases List.mem_append.1 hm with hm | hm
        · rcases hat with e | e
          · left
            have : b ∈ blk (.slice A0 D.length c0) := by unfold blk at hm ⊢; rw [← e]; exact hm
            simp [this]
          · right
            have : b = w1.heap.size := by unfold blk at hm; rw [e] at hm; simpa using hm
            have := ho1.size
            omega
        · exact .inl (by simp [hm])
  · -- it does not
    have hw : ∀ w1, Blk w1 p 80 #[.int .i64 (R : Nat), .bool true, .slice A0 D.length c0, gv, .int .i64 (gapSum G : Nat)] → Only w w1 [p] → Put w w1 p R F L fp E := fun w1 hb1 ho1 =>
      put_full w w1 p R F L fp E hf hW _ gv D G hd hg h1 h2 h3 h4 h5 hb hb1 ho1
    have C : Calls Tryd.prog 75 #[.pointer (some ⟨p, 0, none⟩), .int .i64 (m : Nat)] w (fun e w' => e = .returned (.bool false) ∧ Blk w' p 80 #[.int .i64 (R : Nat), .bool true, .slice A0 D.length c0, gv, .int .i64 (gapSum G : Nat)] ∧ Only w w' [p]) := by
      cases F
      · exact fits_no p R A0 D.length c0 (gapSum G) gv (m : Int) w hb (by omega) (by omega) (by unfold putF at hf; simp at hf; omega)
      · exact fits_full p R A0 D.length c0 (gapSum G) gv (m : Int) w hb
    have HW := Lib.hid hw
    clear hw h3 hl h5 hf hW hm
    go_enter Tryd.func68, Tryd.ntmps68
    go_wp2_with (first | (go_at_call 75; ((with_reducible refine (C).mono ?_); rintro e w1 ⟨rfl, hb1, ho1⟩)))
    go_ret
    exact ⟨rfl, HW.out _ hb1 ho1⟩

end Go.Proofs.YthoocoaalbeopaaDoor

namespace Go.Proofs.YthoocoaalbeopaaDoor
open Go Go.RowKit

theorem lists_new (w : World) (cs : Array Value) (T : TypeId) (E : List Value) (h : ∀ (j : Nat) (u : Value), E[j]? = some u → cs[j]? = some u) : Lists (w.alloc (.cells cs T)) (w.alloc (.cells cs T)).heap.size (some ⟨w.heap.size, 0, none⟩) E :=
  ⟨fun ha => (nomatch ha), fun a ha j u hu => by
    cases ha
    rw [addr_plain, Nat.zero_add, World.cell?_alloc_new]
    exact h j u hu, fun a ha _ => by cases ha; simp⟩
theorem Put.alloc {w w' : World} {o : Obj} {p R : Nat} {F : Bool} {L E : List Value} {fp : List Nat} (h : Put (w.alloc o) w' p R F L fp E) : Put w w' p R F L fp E := by
  obtain ⟨fp', h1, h2, h3⟩ := h
  refine ⟨fp', h1, ((Only.refl w fp).alloc o).trans h2 (fun b hb => .inl hb), fun b hb => ?_⟩
  rcases h3 b hb with h | h
  · exact .inl h
  · right
    simp at h
    omega
theorem byte_of (x : Int) : ∃ n : Nat, n < 256 ∧ Value.int .u8 (x % 256) = .int .u8 (n : Int) := ⟨(x % 256).toNat, by omega, by congr 1; omega⟩
def be1 (x : Int) : List Value := [.int .u8 (x % 256)]
theorem be1_bytes (x : Int) : Bytes8 (be1 x) := by
  intro u hu
  simp only [be1, List.mem_cons, List.not_mem_nil, or_false] at hu
  subst hu
  all_goals exact byte_of _
set_option maxRecDepth 100000 in
theorem number1_any (p R : Nat) (F : Bool) (L : List Value) (fp : List Nat) (x : Int) (w : World) (hW : Wr w p R F L fp) (hR : R ≤ 1099511627776) :
    Calls Tryd.prog 55 #[.pointer (some ⟨p, 0, none⟩), .int .i64 x, .int .i64 1] w fun e w' => e = .returned (.pointer (some ⟨p, 0, none⟩)) ∧ Put w w' p R F L fp (be1 x) := by
  have hp : p < w.heap.size := by
    obtain ⟨_, _, _, _, hb, _⟩ := hW
    exact hb.lt
  have C := fun cs => data_any p R F L fp (some ⟨w.heap.size, 0, none⟩) 1 4 (w.alloc (.cells cs 97)).heap.size (be1 x) (w.alloc (.cells cs 97)) (hW.only ((Only.refl w []).alloc _) (fun _ _ h => (nomatch h))) hR
  have C1 := C #[.int .u8 (x % 256), .int .u8 0, .int .u8 0, .int .u8 0] (lists_new w _ _ _ (fun j u hu => by
    unfold be1 at hu
    match j, hu with
    | 0, hu => exact (by simpa using hu)
    | j + 1, hu => simp at hu)) rfl (Nat.le_refl _) (be1_bytes x) (fun a ha _ => by cases ha; simp; omega)
  clear C hW hR
  go_enter Tryd.func55, Tryd.ntmps55
  go_wp2
  refine wp_loop_rounds 2 ?_
  rw [rounds_succ]
  go_wp2
  rw [rounds_succ]
  go_wp2_with (first | (go_at_call 68; ((with_reducible refine (C1).mono ?_); rintro e w1 ⟨rfl, hq⟩)))
  go_ret
  exact ⟨rfl, hq.alloc⟩

def be2 (x : Int) : List Value := [.int .u8 (x / 256 % 256), .int .u8 (x % 256)]
theorem be2_bytes (x : Int) : Bytes8 (be2 x) := by
  intro u hu
  simp only [be2, List.mem_cons, List.not_mem_nil, or_false] at hu
  rcases hu with rfl | rfl
  all_goals exact byte_of _
set_option maxRecDepth 100000 in
theorem number2_any (p R : Nat) (F : Bool) (L : List Value) (fp : List Nat) (x : Int) (w : World) (hW : Wr w p R F L fp) (hR : R ≤ 1099511627776) :
    Calls Tryd.prog 55 #[.pointer (some ⟨p, 0, none⟩), .int .i64 x, .int .i64 2] w fun e w' => e = .returned (.pointer (some ⟨p, 0, none⟩)) ∧ Put w w' p R F L fp (be2 x) := by
  have hp : p < w.heap.size := by
    obtain ⟨_, _, _, _, hb, _⟩ := hW
    exact hb.lt
  have C := fun cs => data_any p R F L fp (some ⟨w.heap.size, 0, none⟩) 2 4 (w.alloc (.cells cs 97)).heap.size (be2 x) (w.alloc (.cells cs 97)) (hW.only ((Only.refl w []).alloc _) (fun _ _ h => (nomatch h))) hR
  have C1 := C #[.int .u8 (x / 256 % 256), .int .u8 (x % 256), .int .u8 0, .int .u8 0] (lists_new w _ _ _ (fun j u hu => by
    unfold be2 at hu
    match j, hu with
    | 0, hu => exact (by simpa using hu)
    | 1, hu => exact (by simpa using hu)
    | j + 2, hu => simp at hu)) rfl (Nat.le_refl _) (be2_bytes x) (fun a ha _ => by cases ha; simp; omega)
  clear C hW hR
  go_enter Tryd.func55, Tryd.ntmps55
  go_wp2
  refine wp_loop_rounds 3 ?_
  rw [rounds_succ]
  go_wp2
  rw [rounds_succ]
  go_wp2
  rw [rounds_succ]
  go_wp2_with (first | (go_at_call 68; ((with_reducible refine (C1).mono ?_); rintro e w1 ⟨rfl, hq⟩)))
  go_ret
  exact ⟨rfl, hq.alloc⟩

def be4 (x : Int) : List Value := [.int .u8 (x / 16777216 % 256), .int .u8 (x / 65536 % 256), .int .u8 (x / 256 % 256), .int .u8 (x % 256)]
theorem be4_bytes (x : Int) : Bytes8 (be4 x) := by
  intro u hu
  simp only [be4, List.mem_cons, List.not_mem_nil, or_false] at hu
  rcases hu with rfl | rfl | rfl | rfl
  all_goals exact byte_of _
set_option maxRecDepth 100000 in
theorem number4_any (p R : Nat) (F : Bool) (L : List Value) (fp : List Nat) (x : Int) (w : World) (hW : Wr w p R F L fp) (hR : R ≤ 1099511627776) :
    Calls Tryd.prog 55 #[.pointer (some ⟨p, 0, none⟩), .int .i64 x, .int .i64 4] w fun e w' => e = .returned (.pointer (some ⟨p, 0, none⟩)) ∧ Put w w' p R F L fp (be4 x) := by
  have hp : p < w.heap.size := by
    obtain ⟨_, _, _, _, hb, _⟩ := hW
    exact hb.lt
  have C := fun cs => data_any p R F L fp (some ⟨w.heap.size, 0, none⟩) 4 4 (w.alloc (.cells cs 97)).heap.size (be4 x) (w.alloc (.cells cs 97)) (hW.only ((Only.refl w []).alloc _) (fun _ _ h => (nomatch h))) hR
  have C1 := C #[.int .u8 (x / 16777216 % 256), .int .u8 (x / 65536 % 256), .int .u8 (x / 256 % 256), .int .u8 (x % 256)] (lists_new w _ _ _ (fun j u hu => by
    unfold be4 at hu
    exact (by simpa using hu)
)) rfl (Nat.le_refl _) (be4_bytes x) (fun a ha _ => by cases ha; simp; omega)
  clear C hW hR
  go_enter Tryd.func55, Tryd.ntmps55
  go_wp2
  refine wp_loop_rounds 5 ?_
  rw [rounds_succ]
  go_wp2
  rw [rounds_succ]
  go_wp2
  rw [rounds_succ]
  go_wp2
  rw [rounds_succ]
  go_wp2
  rw [rounds_succ]
  go_wp2_with (first | (go_at_call 68; ((with_reducible refine (C1).mono ?_); rintro e w1 ⟨rfl, hq⟩)))
  go_ret
  exact ⟨rfl, hq.alloc⟩

theorem wU8_any (p R : Nat) (F : Bool) (L : List Value) (fp : List Nat) (x : Int) (w : World) (hW : Wr w p R F L fp) (hR : R ≤ 1099511627776) :
    Calls Tryd.prog 33 #[.pointer (some ⟨p, 0, none⟩), .int .i64 x] w fun e w' => e = .returned (.pointer (some ⟨p, 0, none⟩)) ∧ Put w w' p R F L fp (be1 x) := by
  have C := number1_any p R F L fp x w hW hR
  clear hW hR
  go_enter Tryd.func33, Tryd.ntmps33
  go_wp2_with (first | (go_at_call 55; ((with_reducible refine (C).mono ?_); rintro e w1 ⟨rfl, hq⟩)))
  go_ret
  exact ⟨rfl, hq⟩
theorem wI16_any (p R : Nat) (F : Bool) (L : List Value) (fp : List Nat) (x : Int) (w : World) (hW : Wr w p R F L fp) (hR : R ≤ 1099511627776) :
    Calls Tryd.prog 53 #[.pointer (some ⟨p, 0, none⟩), .int .i64 x] w fun e w' => e = .returned (.pointer (some ⟨p, 0, none⟩)) ∧ Put w w' p R F L fp (be2 x) := by
  have C := number2_any p R F L fp x w hW hR
  clear hW hR
  go_enter Tryd.func53, Tryd.ntmps53
  go_wp2_with (first | (go_at_call 55; ((with_reducible refine (C).mono ?_); rintro e w1 ⟨rfl, hq⟩)))
  go_ret
  exact ⟨rfl, hq⟩
theorem wU32_any (p R : Nat) (F : Bool) (L : List Value) (fp : List Nat) (x : Int) (w : World) (hW : Wr w p R F L fp) (hR : R ≤ 1099511627776) :
    Calls Tryd.prog 54 #[.pointer (some ⟨p, 0, none⟩), .int .i64 x] w fun e w' => e = .returned (.pointer (some ⟨p, 0, none⟩)) ∧ Put w w' p R F L fp (be4 x) := by
  have C := number4_any p R F L fp x w hW hR
  clear hW hR
  go_enter Tryd.func54, Tryd.ntmps54
  go_wp2_with (first | (go_at_call 55; ((with_reducible refine (C).mono ?_); rintro e w1 ⟨rfl, hq⟩)))
  go_ret
  exact ⟨rfl, hq⟩

/-- A new writer with room R was answered. -/
def Made (w : World) (R : Nat) (e : Ending) (w' : World) : Prop := ∃ p fp, e = .returned (.pointer (some ⟨p, 0, none⟩)) ∧ Wr w' p R false [] fp ∧ Below w.heap.size w w' ∧ (∀ b ∈ fp, w.heap.size ≤ b)

theorem to_any (r : Int) (w : World) :
    Calls Tryd.prog 31 #[.int .i64 r] w fun e w' => Made w r.toNat e w' := by
  have own0 : ∀ (w : World) (e : TypeId) (n : Nat), w.ownsRow 0 e n (.slice none 0 0) 0 [] := fun w e n => ⟨by simp, .inl ⟨rfl, rfl⟩⟩
  have fin : ∀ v : Int, v = (r.toNat : Int) → Wr (w.alloc (.cells #[.int .i64 v, .bool false, .slice none 0 0, .slice none 0 0, .int .i64 0] 80)) w.heap.size r.toNat false [] [w.heap.size] := fun v hv => by
    rw [hv]
    exact ⟨[], [], .slice none 0 0, .slice none 0 0, Blk.new w _ _, own0 _ _ _, own0 _ _ _, Nat.le_refl _, (fun _ hu => (nomatch hu)), rfl, Nat.zero_le _, rfl⟩
  by_cases h : 0 ≤ r
  · have fin := fin r (by omega)
    go_enter Tryd.func31, Tryd.ntmps31
    go_wp2
    go_ret
    exact ⟨w.heap.size, [w.heap.size], rfl, fin, (Below.refl _ _).alloc (Nat.le_refl _) _, by simp⟩
  · have fin := fin 0 (by omega)
    have h' : r ≤ 0 := by omega
    go_enter Tryd.func31, Tryd.ntmps31
    go_wp2
    go_ret
    exact ⟨w.heap.size, [w.heap.size], rfl, fin, (Below.refl _ _).alloc (Nat.le_refl _) _, by simp⟩

end Go.Proofs.YthoocoaalbeopaaDoor
