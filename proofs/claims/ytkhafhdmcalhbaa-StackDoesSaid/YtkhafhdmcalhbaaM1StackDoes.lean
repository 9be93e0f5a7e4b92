/- Part 2 of the proof: Plan, Chain, Num, Fix1, StE. -/
import Derived.WalkKit
import Derived.Test.YtkhafhdmcalhbaaRows
import Derived.BigQuiet
import Derived.WalkSmall
import Derived.Deep.QuietTactic
import Derived.Lib.SliceRun
import Derived.Lib.Hide
import Derived.Test.YtkhafhdmcalhbaaM0StackDoes

namespace Go.Proofs.Ytkhafhdmcalhbaa
open Go

section
variable {P : Program} {ops : Array Oper} {Q : Exit → Act → World → Prop} {md : Region.Mode} {S : World → Prop}

/-- No way out but the normal one. -/
def NoWay : Exit → Act → World → Prop := fun _ _ _ => False

/-- Operation i, in every act that agrees on what it looks at, in every world that meets S: it yields v, and S holds behind it. -/
def StepC (P : Program) (ops : Array Oper) (S : World → Prop) (i : Nat) (o : Oper) (v : Value) (a : Act) : Prop :=
  ∀ a' w, (∀ t ∈ o.looksAt ops, a'.tmps[t]? = a.tmps[t]?) → S w → wpOp P ops NoWay i (fun b w' => S w' ∧ b = a'.put o.dst v) a' w

theorem exec_agree (o : Oper) (hs : ∀ cs b, o.op ≠ .select cs b) {a a' : Act} (h : ∀ t ∈ o.looksAt ops, a'.tmps[t]? = a.tmps[t]?) : execOp a'.eval o = execOp a.eval o :=
  execOp_congr o hs fun x hx => by
    cases x with
    | tmp t =>
      have := h t (List.mem_append_left _ (List.mem_filterMap.2 ⟨.tmp t, by simpa using hx, rfl⟩))
      simp [Act.eval, this]
    | _ => rfl

theorem wanted_agree (o : Oper) {a a' : Act} (h : ∀ t ∈ o.looksAt ops, a'.tmps[t]? = a.tmps[t]?) : Region.wanted o (yielded ops a'.tmps) = Region.wanted o (yielded ops a.tmps) := by
  unfold Region.wanted
  cases hg : o.guard with
  | none => rfl
  | some gw =>
    obtain ⟨g, want⟩ := gw
    have hy : yielded ops a'.tmps g = yielded ops a.tmps g := by
      unfold yielded
      cases ht : (ops[g]?).bind (·.dst) with
      | none => rfl
      | some t => simp [h t (by simp [Oper.looksAt, hg, ht])]
    simp only [hy]

/-- The walk in one order; it serves for all. 'last': an operation that waits for all others (none, if there is no such number). -/
inductive Plan (P : Program) (md : Region.Mode) (ops : Array Oper) (Q : Exit → Act → World → Prop) (S : World → Prop) (last : Nat) : Nat → Array Bool → Act → Prop
  | done {n : Nat} {listed : Array Bool} {a : Act} (hr : Region.ready md ops listed = []) (h : ∀ w, S w → Q .normal a w) : Plan P md ops Q S last n listed a
  | stop {n : Nat} {listed : Array Bool} {a : Act} (hr : Region.ready md ops listed = [last]) (hf : Region.ready md ops (listed.setIfInBounds last true) = [])
      (h : ∀ w, S w → wpOp P ops Q last (Q .normal) a w) : Plan P md ops Q S last (n + 1) listed a
  | take {n : Nat} {listed : Array Bool} {a : Act} (i : Nat) (o : Oper) (v : Value) (hi : ops[i]? = some o) (hne : i ≠ last) (hf : Region.free md ops listed i = true) (hr : i ∈ Region.ready md ops listed)
      (hs : StepC P ops S i o v a) (h : Plan P md ops Q S last n (listed.setIfInBounds i true) (a.put o.dst v)) : Plan P md ops Q S last (n + 1) listed a

theorem put_agree {o : Oper} {dst : Option Tmp} (h : ∀ d, dst = some d → d ∉ o.looksAt ops) (a : Act) (v : Value) : ∀ t ∈ o.looksAt ops, (a.put dst v).tmps[t]? = a.tmps[t]? := by
  intro t ht
  cases dst with
  | none => rfl
  | some d =>
    have hne : d ≠ t := fun e => h d rfl (e ▸ ht)
    simp [Act.put, Array.getElem?_setIfInBounds_ne hne]

theorem free_set {i j : Nat} {listed : Array Bool} (h : Region.free md ops listed i = true) : Region.free md ops (listed.setIfInBounds j true) i = true := by
  unfold Region.free at *
  split at h
  · exact absurd h (by simp)
  · rename_i oi hoi
    simp only [List.all_eq_true, List.mem_range] at h ⊢
    intro k hk
    have := h k hk
    by_cases hjk : j = k
    · subst hjk
      by_cases hl : j < listed.size
      · simp [hl]
      · simp only [Array.setIfInBounds, hl, dite_false]; exact this
    · rw [getD_set_ne true hjk]; exact this

/-- Whatever may come up could have come up first. -/
theorem Plan.first {last n : Nat} {listed : Array Bool} {a : Act} (h : Plan P md ops Q S last n listed a) : ∀ j, j ∈ Region.ready md ops listed → j ≠ last →
    ∃ m oj u, n = m + 1 ∧ ops[j]? = some oj ∧ StepC P ops S j oj u a ∧ Plan P md ops Q S last m (listed.setIfInBounds j true) (a.put oj.dst u) := by
  induction h with
  | done hr h => intro j hj; rw [hr] at hj; cases hj
  | stop hr hf h => intro j hj hne; rw [hr] at hj; exact absurd (by simpa using hj) hne
  | @take n listed a i o v hi hne hf hr hs h ih =>
    intro j hj hjl
    by_cases hji : j = i
    · subst hji; exact ⟨_, o, v, rfl, hi, hs, h⟩
    · obtain ⟨m, oj, u, rfl, hoj, hsj, hp⟩ := ih j (ready_mono hj hji) hjl
      obtain ⟨hjun, oj', hoj', hall⟩ := mem_ready.1 hj
      obtain rfl : oj' = oj := by rw [hoj] at hoj'; exact (Option.some.inj hoj').symm
      have hnot : ∀ e ∈ oj'.after, Region.binds md e = true → e.on ≠ i := fun e he hb heq => by
        have h1 := hall e he hb
        have h0 := (mem_ready.1 hr).1
        rw [heq] at h1
        rcases Nat.lt_or_ge i listed.size with h' | h'
        · simp [h'] at h0 h1; rw [h0] at h1; cases h1
        · simp [Array.getElem?_eq_none h'] at h1
      obtain ⟨h1, h2, h3⟩ := Oper.apart_spec (Region.free_spec hi hf j oj' hoj hji hjun hnot)
      refine ⟨m + 1, oj', u, rfl, hoj, fun a' w hag hS => hsj a' w (fun t ht => (hag t ht).trans (put_agree h1 a v t ht).symm) hS, ?_⟩
      refine Plan.take i o v hi hne (free_set hf) (ready_mono hr (Ne.symm hji)) (fun a' w hag hS => hs a' w (fun t ht => (hag t ht).trans (put_agree h3 a u t ht)) hS) ?_
      rw [Array.setIfInBounds_comm _ _ hji, ← Act.put_comm a v u h2]
      exact hp

theorem wpOp_imp {i : Nat} {a : Act} {w : World} {K K' : Act → World → Prop} (hK : ∀ a w, K a w → K' a w) (h : wpOp P ops NoWay i K a w) : wpOp P ops Q i K' a w := by
  have h := wpOp_mono (P := P) (ops := ops) (Q := NoWay) hK h
  unfold wpOp at *
  split
  · simpa [*] using h
  · rename_i o ho
    simp only [ho] at h
    split
    · rename_i hw
      simp only [hw, if_true] at h
      rcases h with h | ⟨_, _, _, h⟩
      case inr => exact h.elim
      refine .inl ?_
      unfold Oper.wp at *
      generalize (execOp a.eval o).run P w = r at *
      cases r with
      | ok n w' =>
        cases n <;> simp only [Oper.upon] at h ⊢ <;> try exact h
        case enter f args =>
          refine Calls.mono h fun e w'' he => ?_
          cases e with
          | returned u => exact he
          | panicked c => exact (he : False).elim
          | outgrown => obtain ⟨_, _, he⟩ := he; exact (he : False).elim
      | halt x w' =>
        cases x <;> simp only [Oper.upon] at h ⊢
        case panic u => exact (h : False).elim
    · rename_i hw
      simp only [hw] at h
      exact h

/-- What is listed, so is all that it waits for. -/
def DC (md : Region.Mode) (ops : Array Oper) (listed : Array Bool) : Prop :=
  ∀ k o, ops[k]? = some o → listed.getD k false = true → ∀ e ∈ o.after, Region.binds md e = true → listed.getD e.on false = true

theorem DC.set {listed : Array Bool} {j : Nat} (h : DC md ops listed) (hj : j ∈ Region.ready md ops listed) : DC md ops (listed.setIfInBounds j true) := by
  intro k o hk hl e he hb
  obtain ⟨_, o', ho', hall⟩ := mem_ready.1 hj
  by_cases hjk : j = k
  · subst hjk
    obtain rfl : o' = o := by rw [ho'] at hk; exact Option.some.inj hk
    exact getD_set_true (hall e he hb)
  · rw [getD_set_ne false hjk] at hl
    exact getD_set_true (h k o hk hl e he hb)

theorem DC.none (n : Nat) : DC md ops (Array.replicate n false) := by
  intro k o _ hl
  by_cases h : k < n <;> simp [h] at hl

/-- 'last' comes up only when nothing else may. -/
def Alone (md : Region.Mode) (ops : Array Oper) (last : Nat) : Prop := ∀ listed, DC md ops listed → last ∈ Region.ready md ops listed → ∀ i ∈ Region.ready md ops listed, i = last

theorem Plan.any {last : Nat} (hL : Alone md ops last) : ∀ (fuel n : Nat) (listed : Array Bool) (a : Act), DC md ops listed → n ≤ fuel → Plan P md ops Q S last n listed a → ∀ w, S w → wpAny P md ops Q fuel listed a w
  | 0, n, listed, a, _, hn, h, w, hS => by
    cases h with
    | done hr h => exact ⟨hr, h w hS⟩
    | stop => omega
    | take => omega
  | fuel + 1, n, listed, a, hd, hn, h, w, hS => by
    refine ⟨fun hr => ?_, fun j hj => ?_⟩
    · cases h with
      | done _ h => exact h w hS
      | stop hr' => rw [hr] at hr'; cases hr'
      | take i o v hi hne hf hr' => rw [hr] at hr'; cases hr'
    · by_cases hjl : j = last
      · subst hjl
        cases h with
        | done hr => rw [hr] at hj; cases hj
        | stop hr hf h => exact wpOp_mono (fun a' w' hq => wpAny_done hf hq fuel) (h w hS)
        | take i o v hi hne hf hr' => exact absurd (hL listed hd hj i hr') hne
      · obtain ⟨m, oj, u, rfl, hoj, hsj, hp⟩ := h.first j hj hjl
        exact wpOp_imp (fun a' w' ⟨hS', he⟩ => by subst he; exact Plan.any hL fuel m _ _ (hd.set hj) (by omega) hp w' hS') (hsj a w (fun _ _ => rfl) hS)

theorem alone_none : Alone md ops ops.size := by
  intro listed _ h
  obtain ⟨_, o, ho, _⟩ := mem_ready.1 h
  simp at ho

/-- From operation k down: what those that are marked wait for is marked. -/
def markDown (md : Region.Mode) (ops : Array Oper) : Nat → Array Bool → Array Bool
  | 0, m => m
  | k + 1, m => markDown md ops k (match ops[k]? with
    | some o => if m.getD k false then (o.after.toList.filter (Region.binds md)).foldl (fun m e => m.setIfInBounds e.on true) m else m
    | none => m)

theorem markDown_spec {listed : Array Bool} (hd : DC md ops listed) : ∀ (k : Nat) (m : Array Bool), (∀ j, m.getD j false = true → listed.getD j false = true) → ∀ j, (markDown md ops k m).getD j false = true → listed.getD j false = true
  | 0, m, h => h
  | k + 1, m, h => by
    refine markDown_spec hd k _ ?_
    split
    · rename_i o ho
      split
      · rename_i hk
        have hall : ∀ e ∈ o.after.toList.filter (Region.binds md), listed.getD e.on false = true := fun e he => by
          rw [List.mem_filter] at he
          exact hd k o ho (h k hk) e (by simpa using he.1) he.2
        generalize o.after.toList.filter (Region.binds md) = es at hall
        clear hk
        induction es generalizing m with
        | nil => exact h
        | cons e es ih =>
          refine ih (m.setIfInBounds e.on true) (fun j hj => ?_) (fun e' he' => hall e' (List.mem_cons_of_mem _ he'))
          by_cases hej : e.on = j
          · subst hej; exact hall e List.mem_cons_self
          · rw [getD_set_ne false hej] at hj; exact h j hj
      · exact h
    · exact h

/-- The last operation of the text waits for all others. -/
def lastOk (md : Region.Mode) (ops : Array Oper) : Bool :=
  (List.range ops.size).all fun k => (markDown md ops ops.size ((Array.replicate ops.size false).setIfInBounds (ops.size - 1) true)).getD k false

theorem alone_last (h : lastOk md ops = true) : Alone md ops (ops.size - 1) := by
  intro listed hd hl i hi
  have hd' := hd.set hl
  have h0 : ∀ j, ((Array.replicate ops.size false).setIfInBounds (ops.size - 1) true).getD j false = true → (listed.setIfInBounds (ops.size - 1) true).getD j false = true := by
    intro j hj
    by_cases hjl : ops.size - 1 = j
    · subst hjl
      have := (mem_ready.1 hl).1
      rcases Nat.lt_or_ge (ops.size - 1) listed.size with h' | h'
      · simp [h']
      · simp [Array.getElem?_eq_none h'] at this
    · rw [getD_set_ne false hjl] at hj
      by_cases h2 : j < ops.size <;> simp [h2] at hj
  obtain ⟨hiun, o, ho, _⟩ := mem_ready.1 hi
  have hlt : i < ops.size := (Array.getElem?_eq_some_iff.1 ho).1
  unfold lastOk at h
  simp only [List.all_eq_true, List.mem_range] at h
  have := markDown_spec hd' _ _ h0 i (h i hlt)
  by_cases hil : i = ops.size - 1
  · exact hil
  · rw [getD_set_ne false (Ne.symm hil)] at this
    rcases Nat.lt_or_ge i listed.size with h' | h'
    · simp [h'] at this hiun; rw [hiun] at this; cases this
    · simp [Array.getElem?_eq_none h'] at hiun

/-- One operation at the act at hand: not wanted; or it yields v, by itself or by a call, and S holds behind it. -/
def StepV (P : Program) (ops : Array Oper) (S : World → Prop) (o : Oper) (v : Value) (a : Act) : Prop :=
  (Region.wanted o (yielded ops a.tmps) = false ∧ v = undef) ∨ (Region.wanted o (yielded ops a.tmps) = true ∧ ∀ w, S w →
    (∃ w', (execOp a.eval o).run P w = .ok (.value v) w' ∧ S w') ∨ (∃ f args w1, (execOp a.eval o).run P w = .ok (.enter f args) w1 ∧ Calls P f args w1 fun e w' => e = .returned v ∧ S w'))

theorem StepV.stepC {i : Nat} {o : Oper} {v : Value} {a : Act} (hi : ops[i]? = some o) (hns : ∀ cs b, o.op ≠ .select cs b) (h : StepV P ops S o v a) : StepC P ops S i o v a := by
  intro a' w hag hS
  unfold wpOp
  simp only [hi]
  rw [wanted_agree o hag]
  rcases h with ⟨hw, rfl⟩ | ⟨hw, h⟩
  · rw [hw]
    exact ⟨hS, rfl⟩
  · rw [hw, if_pos rfl]
    refine .inl ?_
    unfold Oper.wp
    rw [exec_agree o hns hag]
    rcases h w hS with ⟨w', h1, h2⟩ | ⟨f, args, w1, h1, h2⟩
    · rw [h1]; exact ⟨h2, rfl⟩
    · rw [h1]
      refine h2.mono fun e w' ⟨g1, g2⟩ => ?_
      subst g1
      exact ⟨g2, rfl⟩

/-- The region's text, from operation i on; E: what is asked behind it. -/
def PlanL (P : Program) (ops : Array Oper) (E : Act → World → Prop) (S : World → Prop) : List Oper → Act → Prop
  | [], a => ∀ w, S w → E a w
  | o :: os, a => ∃ v, StepV P ops S o v a ∧ PlanL P ops E S os (a.put o.dst v)

/-- The first i of n are listed. -/
def firstOf (n i : Nat) : Array Bool := (List.replicate i true ++ List.replicate (n - i) false).toArray

/-- Each of the first m operations may come up when those ahead of it in the text have, and no other one touches what it does. -/
def frontOk (md : Region.Mode) (ops : Array Oper) (m : Nat) : Bool :=
  Region.noSelect ops && (List.range m).all (fun i => Region.free md ops (firstOf ops.size i) i && (Region.ready md ops (firstOf ops.size i)).contains i)
def planOk (md : Region.Mode) (ops : Array Oper) : Bool := frontOk md ops ops.size && (Region.ready md ops (firstOf ops.size ops.size)).isEmpty
def planLastOk (md : Region.Mode) (ops : Array Oper) : Bool :=
  frontOk md ops (ops.size - 1) && (Region.ready md ops (firstOf ops.size (ops.size - 1)) == [ops.size - 1]) && (Region.ready md ops (firstOf ops.size ops.size)).isEmpty && lastOk md ops

theorem firstOf_set {n i : Nat} (h : i < n) : (firstOf n i).setIfInBounds i true = firstOf n (i + 1) := by
  unfold firstOf
  obtain ⟨m, rfl⟩ : ∃ m, n = i + 1 + m := ⟨n - (i + 1), by omega⟩
  rw [show i + 1 + m - i = m + 1 by omega, show i + 1 + m - (i + 1) = m by omega]
  rw [List.setIfInBounds_toArray]
  congr 1
  rw [List.set_append_right _ _ (by simp)]
  simp only [List.length_replicate, Nat.sub_self, List.replicate_succ, List.set_cons_zero]
  rw [show List.replicate i true ++ true :: List.replicate m false = (List.replicate i true ++ [true]) ++ List.replicate m false by simp, ← List.replicate_succ', List.replicate_succ]

theorem PlanL.plan {m last : Nat} {E : Act → World → Prop} (hok : frontOk md ops m = true) (hm : m ≤ ops.size) (hlast : m ≤ last) {k : Nat}
    (hend : ∀ a, (∀ w, S w → E a w) → Plan P md ops Q S last k (firstOf ops.size m) a) :
    ∀ (l : List Oper) (i : Nat) (a : Act), (ops.toList.take m).drop i = l → i ≤ m → PlanL P ops E S l a → Plan P md ops Q S last (m - i + k) (firstOf ops.size i) a
  | [], i, a, hl, hi, h => by
    have : m ≤ i := by
      have := congrArg List.length hl
      simp at this
      omega
    obtain rfl : i = m := by omega
    rw [Nat.sub_self, Nat.zero_add]
    exact hend a h
  | o :: os, i, a, hl, hi, h => by
    obtain ⟨v, hs, hr⟩ := h
    have hlt : i < m := by
      rcases Nat.lt_or_ge i m with h | h
      · exact h
      · rw [List.drop_eq_nil_of_le (by simp; omega)] at hl; cases hl
    have hio : ops[i]? = some o := by
      have h0 := congrArg (fun l => l[0]?) hl
      simp [hlt] at h0
      simpa using h0
    have hok' := hok
    unfold frontOk at hok'
    simp only [Bool.and_eq_true, List.all_eq_true, List.mem_range] at hok'
    have h1 := hok'.2 i hlt
    rw [show m - i + k = (m - (i + 1) + k) + 1 by omega]
    refine Plan.take i o v hio (by omega) h1.1 (by simpa using h1.2) (hs.stepC hio fun cs b => Region.noSelect_spec hok'.1 i o cs b hio) ?_
    rw [firstOf_set (by omega)]
    refine PlanL.plan hok hm hlast hend os (i + 1) _ ?_ hlt hr
    rw [← List.drop_drop, hl]; rfl

/-- THE LAW: a region that draws its order, walked in the order of its text. -/
theorem wp_region_plan {id : Nat} {a : Act} {w : World} (S : World → Prop) (l : List Oper) (hl : ops.toList = l) (hm : P.follows .mixedOrders = true) (hok : planOk .any ops = true) (hS : S w.drew)
    (h : PlanL P ops (Q .normal) S l a) : (Code.region id ops true).wp P Q a w := by
  refine wp_region_any hm ?_
  unfold planOk at hok
  simp only [Bool.and_eq_true, List.isEmpty_iff] at hok
  have := PlanL.plan (Q := Q) (k := 0) hok.1 (Nat.le_refl _) (Nat.le_refl _) (fun a h => Plan.done hok.2 h) l 0 a (by rw [List.drop_zero, List.take_of_length_le (by simp)]; exact hl) (Nat.zero_le _) h
  refine Plan.any alone_none ops.size (ops.size - 0 + 0) _ a (DC.none _) (by omega) ?_ w.drew hS
  rw [show Array.replicate ops.size false = firstOf ops.size 0 by simp [firstOf]]
  exact this

/-- A list but its last element, and that one. -/
def splitLast : List Oper → Option (List Oper × Oper)
  | [] => none
  | [x] => some ([], x)
  | x :: y :: r => match splitLast (y :: r) with
    | some (l, z) => some (x :: l, z)
    | none => none

theorem splitLast_eq : ∀ {l f : List Oper} {z : Oper}, splitLast l = some (f, z) → l = f ++ [z]
  | [], f, z, h => by simp [splitLast] at h
  | [x], f, z, h => by
    simp only [splitLast, Option.some.injEq, Prod.mk.injEq] at h
    obtain ⟨rfl, rfl⟩ := h
    rfl
  | x :: y :: r, f, z, h => by
    simp only [splitLast] at h
    cases hs : splitLast (y :: r) with
    | none => rw [hs] at h; cases h
    | some p =>
      rw [hs] at h
      simp only [Option.some.injEq, Prod.mk.injEq] at h
      obtain ⟨rfl, rfl⟩ := h
      rw [splitLast_eq (l := y :: r) (f := p.1) (z := p.2) hs]
      rfl

/-- THE SAME where the last operation waits for all others and may change S. -/
theorem wp_region_last {id : Nat} {a : Act} {w : World} (S : World → Prop) (l : List Oper) (o : Oper) (hl0 : splitLast ops.toList = some (l, o)) (hm : P.follows .mixedOrders = true) (hok : planLastOk .any ops = true)
    (hg : o.guard = none) (hS : S w.drew) (h : PlanL P ops (fun a w => o.wp P a w (Q .normal) Q) S l a) : (Code.region id ops true).wp P Q a w := by
  refine wp_region_any hm ?_
  unfold planLastOk at hok
  simp only [Bool.and_eq_true, List.isEmpty_iff, beq_iff_eq] at hok
  have hl := splitLast_eq hl0
  have hn : ops.size = l.length + 1 := by
    have := congrArg List.length hl
    simpa using this
  have ho : ops[ops.size - 1]? = some o := by
    have : ops.toList[ops.size - 1]? = some o := by rw [hl, show ops.size - 1 = l.length by omega]; simp
    simpa using this
  have hw : ∀ y, Region.wanted o y = true := fun y => by unfold Region.wanted; rw [hg]
  have := PlanL.plan (P := P) (Q := Q) (S := S) (last := ops.size - 1) (k := 1) hok.1.1.1 (by omega) (Nat.le_refl _) (fun a h => Plan.stop hok.1.1.2 (by rw [firstOf_set (by omega), show ops.size - 1 + 1 = ops.size by omega]; exact hok.1.2)
    (fun w hS => by unfold wpOp; simp only [ho]; rw [hw, if_pos rfl]; exact .inl (h w hS))) l 0 a (by rw [hl, show ops.size - 1 = l.length by omega]; simp) (Nat.zero_le _) h
  refine Plan.any (alone_last hok.2) ops.size (ops.size - 1 - 0 + 1) _ a (DC.none _) (by omega) ?_ w.drew hS
  rw [show Array.replicate ops.size false = firstOf ops.size 0 by simp [firstOf]]
  exact this

variable {E : Act → World → Prop}
/-- An operation that yields v and lets the world be. -/
theorem PlanL.val {o : Oper} {os : List Oper} {a : Act} {v : Value} (hw : Region.wanted o (yielded ops a.tmps) = true)
    (h : ∀ w, S w → (execOp a.eval o).run P w = .ok (.value v) w) (hr : PlanL P ops E S os (a.put o.dst v)) : PlanL P ops E S (o :: os) a :=
  ⟨v, .inr ⟨hw, fun w hS => .inl ⟨w, h w hS, hS⟩⟩, hr⟩

/-- One that is not wanted. -/
theorem PlanL.skip {o : Oper} {os : List Oper} {a : Act} (hw : Region.wanted o (yielded ops a.tmps) = false) (hr : PlanL P ops E S os (a.put o.dst undef)) : PlanL P ops E S (o :: os) a :=
  ⟨undef, .inl ⟨hw, rfl⟩, hr⟩

/-- A call of a function by its contract: it returns v, and keeps S. -/
theorem PlanL.call {o : Oper} {os : List Oper} {a : Act} {v : Value} {f : FuncId} {args : Array Value} (hw : Region.wanted o (yielded ops a.tmps) = true)
    (he : ∀ w, S w → (execOp a.eval o).run P w = .ok (.enter f args) w) (h : ∀ w, S w → Calls P f args w fun e w' => e = .returned v ∧ S w')
    (hr : PlanL P ops E S os (a.put o.dst v)) : PlanL P ops E S (o :: os) a :=
  ⟨v, .inr ⟨hw, fun w hS => .inr ⟨f, args, w, he w hS, h w hS⟩⟩, hr⟩

/-- An operation that changes the world, and keeps S. -/
theorem PlanL.does {o : Oper} {os : List Oper} {a : Act} {v : Value} (hw : Region.wanted o (yielded ops a.tmps) = true)
    (h : ∀ w, S w → ∃ w', (execOp a.eval o).run P w = .ok (.value v) w' ∧ S w') (hr : PlanL P ops E S os (a.put o.dst v)) : PlanL P ops E S (o :: os) a :=
  ⟨v, .inr ⟨hw, fun w hS => .inl (h w hS)⟩, hr⟩

theorem PlanL.nil {a : Act} (h : ∀ w, S w → E a w) : PlanL P ops E S [] a := h
end

end Go.Proofs.Ytkhafhdmcalhbaa

namespace Go.Proofs.Ytkhafhdmcalhbaa
open Go Go.RowKit
set_option linter.unusedVariables false
set_option linter.unusedSimpArgs false

section
variable {P : Program} {ops : Array Oper} {Q : Exit → Act → World → Prop} {md : Region.Mode} {I : World → Prop}

/-- Operation o, in every act that agrees on what it looks at, in every world that meets I: it yields v, and the world stays. -/
def StepI (P : Program) (ops : Array Oper) (I : World → Prop) (o : Oper) (v : Value) (a : Act) : Prop :=
  ∀ (a' : Act) (w : World), (∀ t ∈ o.looksAt ops, a'.tmps[t]? = a.tmps[t]?) → I w →
    (Region.wanted o (yielded ops a'.tmps) = false ∧ v = undef) ∨ (Region.wanted o (yielded ops a'.tmps) = true ∧ (execOp a'.eval o).run P w = .ok (.value v) w)

/-- Operation o at this act and world: it is wanted, and yields a value, by itself or by a call; K holds of it and of the world behind it. -/
def StepO (P : Program) (ops : Array Oper) (o : Oper) (a : Act) (w : World) (K : Value → World → Prop) : Prop :=
  Region.wanted o (yielded ops a.tmps) = true ∧ ((∃ v w', (execOp a.eval o).run P w = .ok (.value v) w' ∧ K v w') ∨ (∃ f args w1, (execOp a.eval o).run P w = .ok (.enter f args) w1 ∧ Calls P f args w1 fun e w' => ∃ v, e = .returned v ∧ K v w') ∨ (∃ w', (execOp a.eval o).run P w = .ok .skip w' ∧ K undef w'))

theorem StepO.mono {o : Oper} {a : Act} {w : World} {K K' : Value → World → Prop} (h : StepO P ops o a w K) (hK : ∀ v w', K v w' → K' v w') : StepO P ops o a w K' := by
  obtain ⟨hw, h | h | h⟩ := h
  · obtain ⟨v, w', h1, h2⟩ := h
    exact ⟨hw, .inl ⟨v, w', h1, hK _ _ h2⟩⟩
  · obtain ⟨f, args, w1, h1, h2⟩ := h
    exact ⟨hw, .inr (.inl ⟨f, args, w1, h1, h2.mono fun e w' ⟨v, h3, h4⟩ => ⟨v, h3, hK _ _ h4⟩⟩)⟩
  · obtain ⟨w', h1, h2⟩ := h
    exact ⟨hw, .inr (.inr ⟨w', h1, hK _ _ h2⟩)⟩
theorem StepO.move {o : Oper} (hns : ∀ cs b, o.op ≠ .select cs b) {a a' : Act} {w : World} {K : Value → World → Prop} (h : StepO P ops o a w K) (hag : ∀ t ∈ o.looksAt ops, a'.tmps[t]? = a.tmps[t]?) : StepO P ops o a' w K := by
  unfold StepO at *
  rw [wanted_agree o hag, exec_agree o hns hag]
  exact h
theorem StepO.wpOp {i : Nat} {o : Oper} (hi : ops[i]? = some o) {a : Act} {w : World} {K : Act → World → Prop} (h : StepO P ops o a w fun v w' => K (a.put o.dst v) w') : wpOp P ops Q i K a w := by
  obtain ⟨hw, h⟩ := h
  unfold Go.wpOp
  simp only [hi]
  rw [hw, if_pos rfl]
  refine .inl ?_
  unfold Oper.wp
  rcases h with ⟨v, w', h1, h2⟩ | ⟨f, args, w1, h1, h2⟩ | ⟨w', h1, h2⟩
  · rw [h1]; exact h2
  · rw [h1]
    refine h2.mono fun e w' ⟨v, h3, h4⟩ => ?_
    subst h3
    exact h4
  · rw [h1]; exact h2

/-- One order: what only reads may be taken as soon as it is ready; what changes the world, when nothing else is ready. -/
inductive PlanC (P : Program) (md : Region.Mode) (ops : Array Oper) (Q : Exit → Act → World → Prop) (I : World → Prop) (last : Nat) : Nat → Array Bool → Act → World → Prop
  | done {n : Nat} {listed : Array Bool} {a : Act} {w : World} (hr : Region.ready md ops listed = []) (h : Q .normal a w) : PlanC P md ops Q I last n listed a w
  | stop {n : Nat} {listed : Array Bool} {a : Act} {w : World} (hr : Region.ready md ops listed = [last]) (hf : Region.ready md ops (listed.setIfInBounds last true) = []) (h : wpOp P ops Q last (Q .normal) a w) : PlanC P md ops Q I last (n + 1) listed a w
  | take {n : Nat} {listed : Array Bool} {a : Act} {w : World} (i : Nat) (o : Oper) (v : Value) (hi : ops[i]? = some o) (hne : i ≠ last) (hf : Region.free md ops listed i = true) (hr : i ∈ Region.ready md ops listed)
      (hs : StepI P ops I o v a) (h : PlanC P md ops Q I last n (listed.setIfInBounds i true) (a.put o.dst v) w) : PlanC P md ops Q I last (n + 1) listed a w
  | step {n : Nat} {listed : Array Bool} {a : Act} {w : World} (i : Nat) (o : Oper) (hi : ops[i]? = some o) (hne : i ≠ last) (hr : Region.ready md ops listed = [i])
      (K : Value → World → Prop) (hs : StepO P ops o a w K) (hI : ∀ v w', K v w' → I w') (h : ∀ v w', K v w' → PlanC P md ops Q I last n (listed.setIfInBounds i true) (a.put o.dst v) w') : PlanC P md ops Q I last (n + 1) listed a w

theorem StepI.move {o : Oper} {v : Value} {a a1 : Act} (h : StepI P ops I o v a) (hag : ∀ t ∈ o.looksAt ops, a1.tmps[t]? = a.tmps[t]?) : StepI P ops I o v a1 :=
  fun a' w ha hI => h a' w (fun t ht => (ha t ht).trans (hag t ht)) hI

/-- Whatever may come up could have come up first. -/
theorem PlanC.first (hns : ∀ (i : Nat) (o : Oper) cs b, ops[i]? = some o → o.op ≠ .select cs b) {n last : Nat} {listed : Array Bool} {a : Act} {w : World} (h : PlanC P md ops Q I last n listed a w) : ∀ j, j ∈ Region.ready md ops listed → j ≠ last →
    ∃ m oj, n = m + 1 ∧ ops[j]? = some oj ∧ ((∃ u, StepI P ops I oj u a ∧ PlanC P md ops Q I last m (listed.setIfInBounds j true) (a.put oj.dst u) w) ∨
      (∃ K : Value → World → Prop, StepO P ops oj a w K ∧ (∀ v w', K v w' → I w') ∧ ∀ v w', K v w' → PlanC P md ops Q I last m (listed.setIfInBounds j true) (a.put oj.dst v) w')) := by
  induction h with
  | done hr h => intro j hj; rw [hr] at hj; cases hj
  | stop hr hf h => intro j hj hne; rw [hr] at hj; exact absurd (by simpa using hj) hne
  | step i o hi hne hr K hs hI h =>
    intro j hj _
    rw [hr] at hj
    obtain rfl : j = i := by simpa using hj
    exact ⟨_, o, rfl, hi, .inr ⟨K, hs, hI, h⟩⟩
  | @take n listed a w i o v hi hne hf hr hs h ih =>
    intro j hj hjl
    by_cases hji : j = i
    · subst hji; exact ⟨_, o, rfl, hi, .inl ⟨v, hs, h⟩⟩
    · obtain ⟨m, oj, rfl, hoj, hh⟩ := ih j (ready_mono hj hji) hjl
      obtain ⟨hjun, oj', hoj', hall⟩ := mem_ready.1 hj
      obtain rfl : oj' = oj := by rw [hoj] at hoj'; exact (Option.some.inj hoj').symm
      have hnot : ∀ e ∈ oj'.after, Region.binds md e = true → e.on ≠ i := fun e he hb heq => by
        have h1 := hall e he hb
        have h0 := (mem_ready.1 hr).1
        rw [heq] at h1
        rcases Nat.lt_or_ge i listed.size with h' | h'
        · simp [h'] at h0 h1; rw [h0] at h1; cases h1
        · simp [Array.getElem?_eq_none h'] at h1
      obtain ⟨h1, h2, h3⟩ := Oper.apart_spec (Region.free_spec hi hf j oj' hoj hji hjun hnot)
      refine ⟨m + 1, oj', rfl, hoj, ?_⟩
      have hst : ∀ u, StepI P ops I o v (a.put oj'.dst u) := fun u => hs.move (put_agree h3 a u)
      rcases hh with ⟨u, hsj, hp⟩ | ⟨K, hsj, hKI, hp⟩
      · refine .inl ⟨u, hsj.move fun t ht => (put_agree h1 a v t ht).symm, ?_⟩
        refine PlanC.take i o v hi hne (free_set hf) (ready_mono hr (Ne.symm hji)) (hst u) ?_
        rw [Array.setIfInBounds_comm _ _ hji, ← Act.put_comm a v u h2]
        exact hp
      · refine .inr ⟨K, hsj.move (hns j oj' · · hoj) fun t ht => (put_agree h1 a v t ht).symm, hKI, fun u w' hK => ?_⟩
        refine PlanC.take i o v hi hne (free_set hf) (ready_mono hr (Ne.symm hji)) (hst u) ?_
        rw [Array.setIfInBounds_comm _ _ hji, ← Act.put_comm a v u h2]
        exact hp u w' hK

theorem PlanC.any {last : Nat} (hL : Alone md ops last) (hns : ∀ (i : Nat) (o : Oper) cs b, ops[i]? = some o → o.op ≠ .select cs b) : ∀ (fuel n : Nat) (listed : Array Bool) (a : Act) (w : World), DC md ops listed → n ≤ fuel → I w → PlanC P md ops Q I last n listed a w → wpAny P md ops Q fuel listed a w
  | 0, n, listed, a, w, _, hn, hI, h => by
    cases h with
    | done hr h => exact ⟨hr, h⟩
    | stop => omega
    | take => omega
    | step => omega
  | fuel + 1, n, listed, a, w, hd, hn, hI, h => by
    refine ⟨fun hr => ?_, fun j hj => ?_⟩
    · cases h with
      | done _ h => exact h
      | stop hr' => rw [hr] at hr'; cases hr'
      | take i o v hi hne hf hr' => rw [hr] at hr'; cases hr'
      | step i o hi hne hr' => rw [hr] at hr'; cases hr'
    · by_cases hjl : j = last
      · subst hjl
        cases h with
        | done hr => rw [hr] at hj; cases hj
        | stop hr hf h => exact wpOp_mono (fun a' w' hq => wpAny_done hf hq fuel) h
        | take i o v hi hne hf hr' => exact absurd (hL listed hd hj i hr') hne
        | step i o hi hne hr' => exact absurd (hL listed hd hj i (by rw [hr']; simp)) hne
      · obtain ⟨m, oj, rfl, hoj, hh⟩ := h.first hns j hj hjl
        rcases hh with ⟨u, hsj, hp⟩ | ⟨K, hsj, hKI, hp⟩
        · have hrec := PlanC.any hL hns fuel m _ _ w (hd.set hj) (by omega) hI hp
          unfold wpOp
          simp only [hoj]
          rcases hsj a w (fun _ _ => rfl) hI with ⟨hw, rfl⟩ | ⟨hw, hrun⟩
          · rw [hw]; exact hrec
          · rw [hw, if_pos rfl]
            refine .inl ?_
            unfold Oper.wp
            rw [hrun]
            exact hrec
        · exact StepO.wpOp hoj (hsj.mono fun v w' hK => PlanC.any hL hns fuel m _ _ w' (hd.set hj) (by omega) (hKI v w' hK) (hp v w' hK))

/-- The order as a list: (operation, whether it changes the world). -/
def ChainL (P : Program) (ops : Array Oper) (E : Act → World → Prop) (I : World → Prop) : List (Nat × Bool) → Act → World → Prop
  | [], a, w => E a w
  | (i, false) :: r, a, w => ∃ o v, ops[i]? = some o ∧ StepI P ops I o v a ∧ ChainL P ops E I r (a.put o.dst v) w
  | (i, true) :: r, a, w => ∃ o, ops[i]? = some o ∧ StepO P ops o a w fun v w' => I w' ∧ ChainL P ops E I r (a.put o.dst v) w'

def chainGo (md : Region.Mode) (ops : Array Oper) (last : Nat) : List (Nat × Bool) → Array Bool → Bool
  | [], listed => if last < ops.size then (Region.ready md ops listed == [last]) && (Region.ready md ops (listed.setIfInBounds last true)).isEmpty else (Region.ready md ops listed).isEmpty
  | (i, false) :: r, listed => (i != last) && Region.free md ops listed i && (Region.ready md ops listed).contains i && chainGo md ops last r (listed.setIfInBounds i true)
  | (i, true) :: r, listed => (i != last) && (Region.ready md ops listed == [i]) && chainGo md ops last r (listed.setIfInBounds i true)
def chainOk (md : Region.Mode) (ops : Array Oper) (ord : List (Nat × Bool)) : Bool := Region.noSelect ops && decide (ord.length ≤ ops.size) && chainGo md ops ops.size ord (Array.replicate ops.size false)
def chainLastOk (md : Region.Mode) (ops : Array Oper) (ord : List (Nat × Bool)) : Bool := Region.noSelect ops && decide (ord.length + 1 ≤ ops.size) && chainGo md ops (ops.size - 1) ord (Array.replicate ops.size false) && lastOk md ops

theorem ChainL.plan {E : Act → World → Prop} {last k : Nat} (hk : last < ops.size → k = 1) (hE : ∀ a w, E a w → if last < ops.size then wpOp P ops Q last (Q .normal) a w else Q .normal a w) : ∀ (ord : List (Nat × Bool)) (listed : Array Bool) (a : Act) (w : World), chainGo md ops last ord listed = true → ChainL P ops E I ord a w → PlanC P md ops Q I last (ord.length + k) listed a w
  | [], listed, a, w, hc, h => by
    have h1 := hE _ _ h
    unfold chainGo at hc
    by_cases hl : last < ops.size
    · rw [if_pos hl] at hc h1
      simp only [Bool.and_eq_true, beq_iff_eq, List.isEmpty_iff] at hc
      obtain rfl := hk hl
      exact .stop hc.1 hc.2 h1
    · rw [if_neg hl] at hc h1
      exact .done (by simpa using hc) h1
  | (i, false) :: r, listed, a, w, hc, h => by
    obtain ⟨o, v, hi, hs, hr⟩ := h
    simp only [chainGo, Bool.and_eq_true, bne_iff_ne, ne_eq] at hc
    rw [List.length_cons, Nat.add_right_comm]
    exact .take i o v hi hc.1.1.1 hc.1.1.2 (by simpa using hc.1.2) hs (ChainL.plan hk hE r _ _ w hc.2 hr)
  | (i, true) :: r, listed, a, w, hc, h => by
    obtain ⟨o, hi, hs⟩ := h
    simp only [chainGo, Bool.and_eq_true, beq_iff_eq, bne_iff_ne, ne_eq] at hc
    rw [List.length_cons, Nat.add_right_comm]
    exact .step i o hi hc.1.1 hc.1.2 _ hs (fun v w' hK => hK.1) fun v w' hK => ChainL.plan hk hE r _ _ w' hc.2 hK.2

/-- THE LAW. -/
theorem wp_region_chain {id : Nat} {a : Act} {w : World} (I : World → Prop) (ord : List (Nat × Bool)) (hm : P.follows .mixedOrders = true) (hok : chainOk .any ops ord = true) (hI : I w.drew)
    (h : ChainL P ops (Q .normal) I ord a w.drew) : (Code.region id ops true).wp P Q a w := by
  refine wp_region_any hm ?_
  unfold chainOk at hok
  simp only [Bool.and_eq_true, decide_eq_true_eq] at hok
  exact PlanC.any alone_none (fun i o cs b hi => Region.noSelect_spec hok.1.1 i o cs b hi) ops.size (ord.length + 0) _ a w.drew (DC.none _) (by omega) hI
    (ChainL.plan (fun h => absurd h (Nat.lt_irrefl _)) (fun a w h => by rw [if_neg (Nat.lt_irrefl _)]; exact h) ord _ a _ hok.2 h)

/-- THE SAME where the last operation of the text waits for all others: I is not asked behind it. -/
theorem wp_region_chain_last {id : Nat} {a : Act} {w : World} (I : World → Prop) (ord : List (Nat × Bool)) (l : List Oper) (o : Oper) (hl0 : splitLast ops.toList = some (l, o)) (hg : o.guard = none) (hm : P.follows .mixedOrders = true) (hok : chainLastOk .any ops ord = true) (hI : I w.drew)
    (h : ChainL P ops (fun a w => o.wp P a w (Q .normal) Q) I ord a w.drew) : (Code.region id ops true).wp P Q a w := by
  refine wp_region_any hm ?_
  unfold chainLastOk at hok
  simp only [Bool.and_eq_true, decide_eq_true_eq] at hok
  have hlt : ops.size - 1 < ops.size := by omega
  have hl := splitLast_eq hl0
  have hn : ops.size = l.length + 1 := by
    have := congrArg List.length hl
    simpa using this
  have ho : ops[ops.size - 1]? = some o := by
    have : ops.toList[ops.size - 1]? = some o := by rw [hl, show ops.size - 1 = l.length by omega]; simp
    simpa using this
  have hw : ∀ y, Region.wanted o y = true := fun y => by unfold Region.wanted; rw [hg]
  exact PlanC.any (alone_last hok.2) (fun i o cs b hi => Region.noSelect_spec hok.1.1.1 i o cs b hi) ops.size (ord.length + 1) _ a w.drew (DC.none _) (by omega) hI
    (ChainL.plan (fun _ => rfl) (fun a w h => by rw [if_pos hlt]; unfold wpOp; simp only [ho]; rw [hw, if_pos rfl]; exact .inl h) ord _ a _ hok.1.2 h)

variable {E : Act → World → Prop} {i : Nat} {r : List (Nat × Bool)} {o : Oper} {a : Act} {w : World}
theorem ChainL.val {v : Value} (hi : ops[i]? = some o) (hns : ∀ cs b, o.op ≠ .select cs b) (hw : Region.wanted o (yielded ops a.tmps) = true) (h : ∀ w, I w → (execOp a.eval o).run P w = .ok (.value v) w)
    (hr : ChainL P ops E I r (a.put o.dst v) w) : ChainL P ops E I ((i, false) :: r) a w :=
  ⟨o, v, hi, fun a' w' hag hI => .inr ⟨by rw [wanted_agree o hag]; exact hw, by rw [exec_agree o hns hag]; exact h w' hI⟩, hr⟩
theorem ChainL.skip (hi : ops[i]? = some o) (hw : Region.wanted o (yielded ops a.tmps) = false) (hr : ChainL P ops E I r (a.put o.dst undef) w) : ChainL P ops E I ((i, false) :: r) a w :=
  ⟨o, undef, hi, fun a' w' hag hI => .inl ⟨by rw [wanted_agree o hag]; exact hw, rfl⟩, hr⟩
theorem ChainL.does {v : Value} {w1 : World} (hi : ops[i]? = some o) (hw : Region.wanted o (yielded ops a.tmps) = true) (h : (execOp a.eval o).run P w = .ok (.value v) w1) (hI : I w1)
    (hr : ChainL P ops E I r (a.put o.dst v) w1) : ChainL P ops E I ((i, true) :: r) a w :=
  ⟨o, hi, hw, .inl ⟨v, w1, h, hI, hr⟩⟩
theorem ChainL.call {f : FuncId} {args : Array Value} (hi : ops[i]? = some o) (hw : Region.wanted o (yielded ops a.tmps) = true) (he : (execOp a.eval o).run P w = .ok (.enter f args) w)
    (h : Calls P f args w fun e w' => ∃ v, e = .returned v ∧ I w' ∧ ChainL P ops E I r (a.put o.dst v) w') : ChainL P ops E I ((i, true) :: r) a w :=
  ⟨o, hi, hw, .inr (.inl ⟨f, args, w, he, h⟩)⟩
theorem ChainL.append (hi : ops[i]? = some o) (hw : Region.wanted o (yielded ops a.tmps) = true) (s x : Operand) (t : TypeId)
    (ho : o.op = .call { callee := .builtin .append, args := #[s, x], argTypes := #[t, t] })
    (base : Nat) (e : TypeId) (info : TypeInfo) (z : Value) (size bytes : Nat) (ht : P.underlying t = some (.slice e)) (hi' : P.info? e = some info) (hz : info.zero = some z)
    (hsize : info.size = size) (hby : info.bytes = bytes) (hzs : z.cells.size = size) (hsz : 0 < size)
    (v : Value) (n : Nat) (xs : List Value) (hs : a.eval s = v) (hown : w.ownsRow base e size v n xs)
    (B : Nat) (A : Option Addr) (m c : Nat) (news : List Value) (hx : a.eval x = .slice A m c) (hr : Lists w B A news) (hl : news.length = m * size) (h1 : ∀ u ∈ news, u.oneCell' = true)
    (h63 : n + m ≤ maxLen) (hbytes : (n + m) * bytes ≤ 140737488355328) (hbase : base ≤ w.heap.size)
    (h : ∀ v' w', w'.ownsRow base e size v' (n + m) (xs ++ news) → w.grownBy w' v.ownBlock → (v'.ownBlock = v.ownBlock ∨ v'.ownBlock = some w.heap.size) → I w' ∧ ChainL P ops E I r (a.put o.dst v') w') : ChainL P ops E I ((i, true) :: r) a w := by
  obtain ⟨v', w', hrun, h2, h3, h4⟩ := run_append_src (P := P) w base t o.type e info z size bytes ht hi' hz hsize hby hzs hsz v n xs hown B A m c news hr hl h1 h63 hbytes hbase
  refine ⟨o, hi, hw, .inl ⟨v', w', ?_, h v' w' h2 h3 h4⟩⟩
  unfold execOp
  simp only [ho, resolve, invoke, builtin, Sem.run_bind, Sem.run_pure, Result.andThen_ok, List.map_toArray, List.map_cons, List.map_nil, hs, hx, hrun]
theorem ChainL.store {w1 : World} (hi : ops[i]? = some o) (hw : Region.wanted o (yielded ops a.tmps) = true) (h : (execOp a.eval o).run P w = .ok .skip w1) (hI : I w1)
    (hr : ChainL P ops E I r (a.put o.dst undef) w1) : ChainL P ops E I ((i, true) :: r) a w :=
  ⟨o, hi, hw, .inr (.inr ⟨w1, h, hI, hr⟩)⟩
theorem ChainL.nil (h : E a w) : ChainL P ops E I [] a w := h
end

end Go.Proofs.Ytkhafhdmcalhbaa

namespace Go.Proofs.Ytkhafhdmcalhbaa

/-- may a number be? -/
def mayB (x : Int) : Bool := decide (-2147483648 ≤ x) && decide (x ≤ 2147483648)

/-- the nearest whole number to a quotient -/
def near (a b : Int) : Int := if b < 0 then (2 * (-a) + (-b)) / (2 * (-b)) else (2 * a + b) / (2 * b)

theorem div_unique {a b q : Int} (h1 : b * q ≤ a) (h2 : a < b * q + b) : a / b = q := by
  have hb : 0 < b := by omega
  have h3 : a = b * q + (a - b * q) := by omega
  rw [h3, Int.add_comm, Int.add_mul_ediv_left _ _ (by omega : b ≠ 0), Int.ediv_eq_zero_of_lt (by omega) (by omega)]
  omega

theorem tdiv_floor {a b : Int} (hb : 0 < b) (ha : a < 0) (hm : ¬ a % b = 0) : a.tdiv b - 1 = a / b ∧ ¬ a.tmod b = 0 ∧ a.tdiv b ≤ 0 ∧ a < a.tdiv b  := by
  have hd : ¬ b ∣ a := fun h => hm (Int.emod_eq_zero_of_dvd h)
  have e := @Int.tdiv_eq_ediv a b
  rw [if_neg (by intro h; rcases h with h | h; omega; exact hd h), Int.sign_eq_one_of_pos hb] at e
  have h4 : a / b < 0 := Int.ediv_neg_of_neg_of_pos ha hb
  have h5 : a ≤ a / b := Int.le_ediv_of_mul_le hb (by have := Int.mul_le_mul_of_nonpos_left (a := a) (b := b) (c := 1) (by omega) (by omega); omega)
  exact ⟨by omega, fun h => hd (Int.dvd_of_tmod_eq_zero h), by omega, by omega⟩
theorem tdiv_whole {a b : Int} (hm : a % b = 0) : a.tdiv b = a / b ∧ a.tmod b = 0 := by
  have hd : b ∣ a := Int.dvd_of_emod_eq_zero hm
  have e := @Int.tdiv_eq_ediv a b
  rw [if_pos (.inr hd)] at e
  exact ⟨by omega, Int.tmod_eq_zero_of_dvd hd⟩

theorem near_pos {a b q : Int} (hb : 0 < b) (h1 : 2 * (b * q) ≤ 2 * a + b) (h2 : 2 * a + b < 2 * (b * q) + 2 * b) : near a b = q := by
  unfold near; rw [if_neg (by omega)]
  exact div_unique (by rw [Int.mul_assoc]; exact h1) (by rw [Int.mul_assoc]; exact h2)

theorem near_neg {a b q : Int} (hb : b < 0) (h1 : 2 * (b * q) ≥ 2 * a + b) (h2 : 2 * a + b > 2 * (b * q) + 2 * b) : near a b = q := by
  unfold near; rw [if_pos hb]
  exact div_unique (by rw [Int.mul_assoc, Int.neg_mul]; omega) (by rw [Int.mul_assoc, Int.neg_mul]; omega)

theorem near_same {a b n d : Int} (hn : max a (-a) = n) (hd : max b (-b) = d) (h0 : 0 < d) (hs : (!decide (a < 0) == decide (b < 0)) = false) :
    near a b = n / d + if d ≤ 2 * (n % d) then 1 else 0 := by
  have e := Int.mul_ediv_add_emod n d
  have r0 : 0 ≤ n % d := Int.emod_nonneg n (by omega)
  have r1 : n % d < d := Int.emod_lt_of_pos n h0
  by_cases hb : b < 0
  · have ha : a < 0 := by simp [hb] at hs; exact hs
    obtain rfl : b = -d := by omega
    obtain rfl : a = -n := by omega
    clear hn hd hs
    apply near_neg hb <;> (split <;> simp only [Int.neg_mul, Int.mul_add, Int.mul_one, Int.add_zero] <;> omega)
  · have ha : ¬ a < 0 := by simp [hb] at hs; omega
    obtain rfl : b = d := by omega
    obtain rfl : a = n := by omega
    clear hn hd hs
    apply near_pos h0 <;> (split <;> simp only [Int.mul_add, Int.mul_one, Int.add_zero] <;> omega)

theorem near_diff {a b n d : Int} (hn : max a (-a) = n) (hd : max b (-b) = d) (h0 : 0 < d) (hs : (!decide (a < 0) == decide (b < 0)) = true) :
    near a b = -(n / d + if d < 2 * (n % d) then 1 else 0) := by
  have e := Int.mul_ediv_add_emod n d
  have r0 : 0 ≤ n % d := Int.emod_nonneg n (by omega)
  have r1 : n % d < d := Int.emod_lt_of_pos n h0
  by_cases hb : b < 0
  · have ha : ¬ a < 0 := by simp [hb] at hs; omega
    obtain rfl : b = -d := by omega
    obtain rfl : a = n := by omega
    clear hn hd hs
    apply near_neg hb <;> (split <;> simp only [Int.neg_mul, Int.mul_neg, Int.neg_neg, Int.mul_add, Int.mul_one, Int.add_zero] <;> omega)
  · have ha : a < 0 := by simp [hb] at hs; omega
    obtain rfl : b = d := by omega
    obtain rfl : a = -n := by omega
    clear hn hd hs
    apply near_pos h0 <;> (split <;> simp only [Int.mul_neg, Int.mul_add, Int.mul_one, Int.add_zero] <;> omega)

theorem mul_bound {a b : Int} (A B : Nat) (h1 : -(A : Int) ≤ a) (h2 : a ≤ A) (h3 : -(B : Int) ≤ b) (h4 : b ≤ B) : -((A * B : Nat) : Int) ≤ a * b ∧ a * b ≤ ((A * B : Nat) : Int) := by
  have h : (a * b).natAbs ≤ A * B := by rw [Int.natAbs_mul]; exact Nat.mul_le_mul (by omega) (by omega)
  omega

theorem near_spec (a b : Int) (hb : 1 ≤ b) : -b ≤ 2 * (a - near a b * b) ∧ 2 * (a - near a b * b) < b := by
  unfold near
  rw [if_neg (by omega)]
  have h := Int.mul_ediv_add_emod (2 * a + b) (2 * b)
  have h1 := Int.emod_nonneg (2 * a + b) (show 2 * b ≠ 0 by omega)
  have h2 := Int.emod_lt_of_pos (2 * a + b) (show 0 < 2 * b by omega)
  rw [Int.mul_assoc, Int.mul_comm b] at h
  omega

end Go.Proofs.Ytkhafhdmcalhbaa

namespace Go.Proofs.Ytkhafhdmcalhbaa
open Go.RowKit

theorem ret_int {k : IntKind} {a b : Int} (h : a = b) : Ending.returned (.int k a) = .returned (.int k b) := by rw [h]

theorem may_ref (x : Int) (w : World) : Calls Try.prog 22 #[.int .i64 x] w fun e w' => e = .returned (.bool (mayB x)) ∧ w = w' := by
  unfold mayB
  by_cases h1 : -2147483648 ≤ x <;> by_cases h2 : x ≤ 2147483648
  all_goals
    go_enter Try.func22, Try.ntmps22
    go_wp2
    go_ret
    simp [h1, h2]

theorem may_any (x : Int) (w : World) : Calls Try.prog 25 #[.int .i64 x] w fun e w' => e = .returned (.bool (mayB x)) ∧ w = w' := by
  unfold mayB
  by_cases h1 : -2147483648 ≤ x <;> by_cases h2 : x ≤ 2147483648
  all_goals
    go_enter Try.func25, Try.ntmps25
    go_wp2
    go_ret
    simp [h1, h2]

theorem floor_ref (a b : Int) (w : World) (hb : 0 < b) (ha : -9223372036854775808 ≤ a) (ha2 : a ≤ 9223372036854775807) :
    Calls Try.prog 30 #[.int .i64 a, .int .i64 b] w fun e w' => e = .returned (.int .i64 (a / b)) ∧ w = w' := by
  by_cases h2 : a < 0
  · by_cases h1 : a % b = 0
    · obtain ⟨e1, e2⟩ := tdiv_whole h1
      have H : Hid (a.tdiv b = a / b) := e1
      have e3 : (a.tmod b != 0) = false := by simp [e2]
      clear e1 h1 e2
      go_enter Try.func30, Try.ntmps30
      go_wp2
      go_ret
      exact ⟨ret_int H.out, rfl⟩
    · obtain ⟨e1, e2, e4, e5⟩ := tdiv_floor hb h2 h1
      have H : Hid (a.tdiv b - 1 = a / b) := e1
      have e3 : (a.tmod b != 0) = true := by simp [e2]
      have e6 : -9223372036854775808 ≤ a.tdiv b - 1 := by omega
      clear e1 h1
      go_enter Try.func30, Try.ntmps30
      go_wp2
      go_ret
      exact ⟨ret_int H.out, rfl⟩
  · by_cases h1 : a % b = 0
    all_goals
      go_enter Try.func30, Try.ntmps30
      go_wp2
      all_goals go_ret
      all_goals exact ⟨rfl, rfl⟩

end Go.Proofs.Ytkhafhdmcalhbaa

namespace Go.Proofs.Ytkhafhdmcalhbaa
open Go Go.RowKit
set_option linter.unusedVariables false
set_option linter.unusedSimpArgs false

theorem infoS : (Try.prog.info? 3).map (fun i => (i.zero, i.size, i.bytes)) = some (some (.int .i64 0), 1, 8) := by kernel_rfl
theorem info_partsS {o : Option TypeInfo} {z : Option Value} {n b : Nat} (h : o.map (fun i => (i.zero, i.size, i.bytes)) = some (z, n, b)) : ∃ i, o = some i ∧ i.zero = z ∧ i.size = n ∧ i.bytes = b := by
  cases o with
  | none => cases h
  | some i => simp at h; exact ⟨i, rfl, h.1, h.2.1, h.2.2⟩
theorem intCells_oneS (L : List Int) : ∀ u ∈ intCells L, u.oneCell' = true := fun u hu => by
  unfold intCells at hu
  obtain ⟨x, _, rfl⟩ := List.mem_map.1 hu
  rfl
theorem intCells_app (L M : List Int) : intCells (L ++ M) = intCells L ++ intCells M := by simp [intCells]
theorem own_newS (w : World) : (w.alloc (.cells #[] 3)).ownsRow w.heap.size 3 1 (.slice (some ⟨w.heap.size, 0, none⟩) 0 0) 0 [] := ⟨rfl, .inr ⟨w.heap.size, 0, #[], rfl, Nat.le_refl _, heap_alloc_new w _, Nat.le_refl _, Nat.zero_le _, rfl, rfl⟩⟩
theorem own_setS {w : World} {base g n cap size : Nat} {e : TypeId} {xs : List Value} (h : w.ownsRow base e size (.slice (some ⟨g, 0, none⟩) n cap) n xs) (o : Nat) (v : Value) : (w.setCell ⟨g, o, none⟩ v).ownsRow base e size (.slice (some ⟨g, 0, none⟩) n cap) n (xs.set o v) := by
  refine ⟨by rw [List.length_set]; exact h.1, ?_⟩
  rcases h.2 with ⟨h1, _⟩ | ⟨g1, cap1, cur, h1, h2, h3, h4, h5, h6, h7⟩
  · cases h1
  · cases h1
    have hb : Blk (w.setCell ⟨g, o, none⟩ v) g e (cur.setIfInBounds o v) := Blk.set (show Blk w g e cur from h3) o v
    exact .inr ⟨g, cap, _, rfl, h2, hb, h4, h5, by simpa using h6, by rw [Array.toList_setIfInBounds, List.take_set, h7]⟩
/-- The first k of a row that is owned. -/
theorem own_cutS {w : World} {base n c : Nat} {A : Option Addr} {e : TypeId} {L : List Int} (h : w.ownsRow base e 1 (.slice A n c) n (intCells L)) (k : Nat) (hk : k ≤ n) : w.ownsRow base e 1 (.slice A k c) k (intCells (L.take k)) := by
  have hl : L.length = n := by have := h.1; rw [intCells_len] at this; omega
  refine ⟨by rw [intCells_len, List.length_take]; omega, ?_⟩
  rcases h.2 with ⟨h1, h2⟩ | ⟨g1, cap1, cur, h1, h2, h3, h4, h5, h6, h7⟩
  · cases h1
    exact .inl ⟨by rw [show k = 0 by omega], by omega⟩
  · cases h1
    refine .inr ⟨g1, c, cur, rfl, h2, h3, by omega, h5, h6, ?_⟩
    rw [show intCells (L.take k) = (intCells L).take k by simp [intCells, List.map_take], ← h7, List.take_take, Nat.mul_one, Nat.mul_one, Nat.min_eq_left hk]
theorem own_lowS {w : World} {base : Nat} {e : TypeId} {size n : Nat} {v : Value} {xs : List Value} (h : w.ownsRow base e size v n xs) : ∀ b ∈ blk v, base ≤ b := by
  intro b hm
  rcases h.2 with ⟨rfl, _⟩ | ⟨g, cap, cur, rfl, h2, _⟩
  · simp [blk, Value.ownBlock] at hm
  · have : b = g := by simpa [blk, Value.ownBlock] using hm
    omega
theorem lists_lt {w : World} {B : Nat} {A : Option Addr} {xs : List Value} {fp : List Nat} {w1 : World} (h : Lists w B A xs) (hB : B ≤ w.heap.size) (k : Only w w1 fp) (hn : ∀ b ∈ fp, B ≤ b) : Lists w1 B A xs :=
  lists_only h hB k fun a ha hx hm => by have := hn _ hm; have := h.lt a ha hx; omega

/-- A Stack's cells. -/
def skCells (nv : Value) (St : List Int) (dv : Value) : Array Value := (nv :: (intCells St ++ [dv])).toArray
theorem sk_c0 (nv : Value) (St : List Int) (dv : Value) : (skCells nv St dv)[0]? = some nv := by unfold skCells; rw [List.getElem?_toArray]; rfl
theorem sk_c33 (nv : Value) (St : List Int) (dv : Value) (h : St.length = 32) : (skCells nv St dv)[33]? = some dv := by
  unfold skCells
  rw [List.getElem?_toArray, List.getElem?_cons_succ, List.getElem?_append_right (by rw [intCells_len]; omega), intCells_len, h]
  rfl
theorem sk_ci (nv : Value) (St : List Int) (dv : Value) (i : Nat) (h : i < St.length) : (skCells nv St dv)[1 + i]? = some (.int .i64 (St.getD i 0)) := by
  unfold skCells
  rw [List.getElem?_toArray, Nat.add_comm, List.getElem?_cons_succ, List.getElem?_append_left (by rw [intCells_len]; omega), intCells_get St i h]
theorem sk_set0 (nv v : Value) (St : List Int) (dv : Value) : (skCells nv St dv).setIfInBounds 0 v = skCells v St dv := by
  unfold skCells
  rw [List.setIfInBounds_toArray, List.set_cons_zero]
theorem sk_set33 (nv v : Value) (St : List Int) (dv : Value) (h : St.length = 32) : (skCells nv St dv).setIfInBounds 33 v = skCells nv St v := by
  unfold skCells
  rw [List.setIfInBounds_toArray, List.set_cons_succ, List.set_append_right _ _ (by rw [intCells_len]; omega), intCells_len, h]
  rfl
theorem sk_seti (nv : Value) (St : List Int) (dv : Value) (i : Nat) (h : i < St.length) (x : Int) : (skCells nv St dv).setIfInBounds (1 + i) (.int .i64 x) = skCells nv (St.set i x) dv := by
  unfold skCells
  rw [List.setIfInBounds_toArray, Nat.add_comm, List.set_cons_succ, List.set_append_left _ _ (by rw [intCells_len]; omega)]
  congr 3
  simp [intCells]

/-- The Stack at block q: its numbers lie at nv. -/
structure Sk (W : World) (q : Nat) (nv : Value) (L St ds : List Int) : Prop where
  blk : ∃ A c, Blk W q 48 (skCells nv St (.slice A ds.length c)) ∧ Lists W q A (intCells ds) ∧ ds.length ≤ c
  own : W.ownsRow q 3 1 nv L.length (intCells L)
  st : St.length = 32
  len : L.length ≤ 48
  may : ∀ x ∈ L, mayB x = true
  mst : ∀ x ∈ St, mayB x = true
/-- What a call has changed. -/
def Mod (w w' : World) (q : Nat) (nv nv' : Value) : Prop := Only w w' (q :: blk nv) ∧ ∀ b ∈ blk nv', b ∈ blk nv ∨ w.heap.size ≤ b
theorem Mod.refl (w : World) (q : Nat) (nv : Value) : Mod w w q nv nv := ⟨Only.refl _ _, fun _ h => .inl h⟩
theorem Mod.trans {w w1 w2 : World} {q : Nat} {a b c : Value} (h : Mod w w1 q a b) (k : Mod w1 w2 q b c) : Mod w w2 q a c :=
  ⟨h.1.trans k.1 (fun x hx => by
    rcases List.mem_cons.1 hx with rfl | hx
    · exact .inl (by simp)
    · rcases h.2 x hx with h1 | h1
      · exact .inl (by simp [h1])
      · exact .inr h1), fun x hx => by
    rcases k.2 x hx with h1 | h1
    · exact h.2 x h1
    · exact .inr (Nat.le_trans h.1.size h1)⟩
theorem Mod.below {w w1 : World} {q : Nat} {nv : Value} (h : Below w.heap.size w w1) : Mod w w1 q nv nv := ⟨Only.of_below h _, fun _ hb => .inl hb⟩
theorem Mod.to_below {w w1 : World} {q B : Nat} {nv nv' : Value} {L : List Value} {n : Nat} (h : Mod w w1 q nv nv') (ho : w.ownsRow q 3 1 nv n L) (hB : B ≤ q) (hq : q < w.heap.size) : Below B w w1 :=
  h.1.to_below (by omega) fun b hb => by
    rcases List.mem_cons.1 hb with rfl | hb
    · exact hB
    · have := own_lowS ho b hb; omega
theorem Sk.lt {W : World} {q : Nat} {nv : Value} {L St ds : List Int} (h : Sk W q nv L St ds) : q < W.heap.size := by obtain ⟨_, _, hb, _⟩ := h.blk; exact hb.lt
theorem Sk.ne {W : World} {q : Nat} {nv : Value} {L St ds : List Int} (h : Sk W q nv L St ds) : q ∉ Go.Proofs.Ytkhafhdmcalhbaa.blk nv := by obtain ⟨_, _, hb, _⟩ := h.blk; exact own_ne h.own hb (by decide)
theorem Sk.only {W w1 : World} {q : Nat} {nv : Value} {L St ds : List Int} {fp : List Nat} (h : Sk W q nv L St ds) (o : Only W w1 fp) (h1 : ∀ b ∈ fp, q < b) (h2 : ∀ b ∈ fp, b ∉ Go.Proofs.Ytkhafhdmcalhbaa.blk nv) : Sk w1 q nv L St ds := by
  obtain ⟨A, c, hb, hl, hc⟩ := h.blk
  exact ⟨⟨A, c, hb.only o (fun hm => by have := h1 q hm; omega), lists_lt hl (Nat.le_of_lt h.lt) o (fun b hb => Nat.le_of_lt (h1 b hb)), hc⟩, own_only h.own o (fun b hb hm => h2 b hm hb), h.st, h.len, h.may, h.mst⟩
theorem Sk.below {W w1 : World} {q : Nat} {nv : Value} {L St ds : List Int} (h : Sk W q nv L St ds) (o : Below W.heap.size W w1) : Sk w1 q nv L St ds := h.only (Only.of_below o []) (fun _ hb => (nomatch hb)) (fun _ hb => (nomatch hb))
/-- The numbers were set anew. -/
theorem Sk.put {w w2 : World} {q : Nat} {nv v2 : Value} {L L2 St ds : List Int} (h : Sk w q nv L St ds) (o : Only w w2 (Go.Proofs.Ytkhafhdmcalhbaa.blk nv)) (h2 : w2.ownsRow q 3 1 v2 L2.length (intCells L2)) (hat : ∀ b ∈ Go.Proofs.Ytkhafhdmcalhbaa.blk v2, b ∈ Go.Proofs.Ytkhafhdmcalhbaa.blk nv ∨ w.heap.size ≤ b)
    (hl : L2.length ≤ 48) (hm : ∀ x ∈ L2, mayB x = true) : Sk (w2.setCell ⟨q, 0, none⟩ v2) q v2 L2 St ds ∧ Mod w (w2.setCell ⟨q, 0, none⟩ v2) q nv v2 := by
  obtain ⟨A, c, hb, hls, hc⟩ := h.blk
  have hb2 := hb.only o h.ne
  have o1 : Only w2 (w2.setCell ⟨q, 0, none⟩ v2) [q] := (Only.refl _ _).set (.inl (by simp)) _
  have hlow := own_lowS h.own
  have hq2 : q ∉ Go.Proofs.Ytkhafhdmcalhbaa.blk v2 := own_ne h2 hb2 (by decide)
  have hs : (skCells nv St (.slice A ds.length c)).setIfInBounds 0 v2 = skCells v2 St (.slice A ds.length c) := sk_set0 _ _ _ _
  refine ⟨⟨⟨A, c, hs ▸ hb2.set 0 v2, ?_, hc⟩, own_only h2 o1 (fun b hbm e => by simp at e; subst e; exact hq2 hbm), h.st, hl, hm, h.mst⟩, ⟨?_, hat⟩⟩
  · exact lists_lt (lists_lt hls (Nat.le_of_lt h.lt) o hlow) (by have := o.size; have := h.lt; omega) o1 (fun b hb => by simp at hb; omega)
  · exact (o.more (fun b hb => .inl (by simp [hb]))).trans o1 (fun b hb => .inl (by simp at hb; simp [hb]))
/-- A call's end: a code, and the numbers. -/
def Did (q : Nat) (nv : Value) (w : World) (code : Int) (L St ds : List Int) (e : Ending) (w' : World) : Prop := e = .returned (.int .i64 code) ∧ ∃ nv', Sk w' q nv' L St ds ∧ Mod w w' q nv nv'

def pushE (L : List Int) (x : Int) : Int := if mayB x = true then (if L.length = 48 then 170 else 0) else 10
def pushL (L : List Int) (x : Int) : List Int := if mayB x = true then (if L.length = 48 then L else L ++ [x]) else L
set_option maxRecDepth 100000 in
set_option maxHeartbeats 1000000 in
theorem push_any (q : Nat) (nv : Value) (L St ds : List Int) (x : Int) (w : World) (h : Sk w q nv L St ds) :
    Calls Try.prog 10 #[.pointer (some ⟨q, 0, none⟩), .int .i64 x] w (Did q nv w (pushE L x) (pushL L x) St ds) := by
  have C := may_any x w
  obtain ⟨A, c, hb, hls, hcc⟩ := h.blk
  have c0 := hb.cell 0
  rw [sk_c0] at c0
  have f0 := hb.frozen 0
  obtain ⟨A0, n0, rfl, hl0, hn0⟩ := own_lists h.own
  have HS := Lib.hid h
  obtain ⟨n, hn⟩ : ∃ n, n = L.length := ⟨_, rfl⟩
  rw [← hn] at c0 hn0
  have hn48 : n ≤ 48 := by have := h.len; omega
  unfold pushE pushL
  by_cases hm : mayB x = true
  · rw [hm] at C
    by_cases h48 : L.length = 48
    · rw [if_pos hm, if_pos hm, if_pos h48, if_pos h48]
      have d1 : decide ((n : Int) = 48) = true := by simp; omega
      have hn' : n = 48 := by omega
      clear hm hls hb hl0 h h48
      go_enter Try.func10, Try.ntmps10
      go_wp2_with (go_at_call 25; refine (C).mono ?_; rintro e w1 ⟨rfl, rfl⟩)
      go_ret
      exact ⟨rfl, _, HS.out, Mod.refl _ _ _⟩
    · rw [if_pos hm, if_pos hm, if_neg h48, if_neg h48]
      obtain ⟨i0, hi, hz0, hz1, hz2⟩ := info_partsS infoS
      have hown := h.own
      rw [← hn] at hown
      have hq := h.lt
      have HN := Lib.hid hn
      have HM := Lib.hid hm
      have H48 := Lib.hid (show ¬ n = 48 by omega)
      have d1 : decide ((n : Int) = 48) = false := by simp; omega
      have d2 : ((n : Int) == 48) = false := by simp; omega
      clear hm hls hl0 h h48 hn
      go_enter Try.func10, Try.ntmps10
      go_wp2_with (first
        | (go_at_call 25; refine (C).mono ?_; rintro e w1 ⟨rfl, rfl⟩; have own1 := own_only hown ((Only.refl w []).alloc (.cells #[.int .i64 x] 3)) (fun _ _ h => (nomatch h)); have hb1 := hb.below ((Below.refl _ _).alloc (Nat.le_refl _) (.cells #[.int .i64 x] 3)))
        | (at_builtin; refine wpList_append_src _ rfl (.tmp 23) (.tmp 25) 22 rfl q 3 i0 (.int .i64 0) 1 8 Try.underlying22 hi hz0 hz1 hz2 rfl (by decide) (.slice A0 n n0) n (intCells L) rfl own1 (w.heap.size + 1) (some ⟨w.heap.size, 0, none⟩) 1 1 [.int .i64 x] (by rfl) (lists_row w [.int .i64 x] 3) rfl (by simp [Value.oneCell']) (by simp only [maxLen]; omega) (by omega) (by simp; omega) ?_; intro v2 w2 own2 hg2 hat2; obtain ⟨A2, n2, rfl, _⟩ := own_lists own2; have g3 : Only _ w2 (blk (.slice A0 n n0)) := (Only.refl _ _).grown hg2 (fun b hb => .inl (by simp [blk, hb])); have hne : q ∉ blk (Value.slice A0 n n0) := own_ne hown hb (by decide); have hb2 := hb1.only g3 hne; have c2 := hb2.cell 0; rw [sk_c0] at c2; have f2 := hb2.frozen 0))
      go_ret
      have o2 : Only w w2 (blk (.slice A0 n n0)) := (((Only.refl w []).alloc (.cells #[.int .i64 x] 3)).more (fun _ h => (nomatch h))).trans g3 (fun b hb => .inl hb)
      have hlen : (L ++ [x]).length = n + 1 := by rw [List.length_append, ← HN.out]; rfl
      refine ⟨rfl, _, HS.out.put (L2 := L ++ [x]) (by rw [HN.out] at o2; exact o2) ?_ ?_ ?_ ?_⟩
      · rw [hlen, intCells_app]; exact own2
      · intro b hb
        rcases hat2 with e | e
        · left
          rw [← HN.out]
          unfold blk at hb ⊢
          rw [← e]; exact hb
        · right
          unfold blk at hb
          rw [e] at hb
          simp at hb
          omega
      · have := H48.out; omega
      · intro y hy
        rcases List.mem_append.1 hy with h1 | h1
        · exact HS.out.may y h1
        · simp at h1; subst h1; exact HM.out
  · have hm' : mayB x = false := by simpa using hm
    rw [hm'] at C
    rw [if_neg hm, if_neg hm]
    clear hm hm' hls hb hl0 h
    go_enter Try.func10, Try.ntmps10
    go_wp2_with (go_at_call 25; refine (C).mono ?_; rintro e w1 ⟨rfl, rfl⟩)
    go_ret
    exact ⟨rfl, _, HS.out, Mod.refl _ _ _⟩
end Go.Proofs.Ytkhafhdmcalhbaa
